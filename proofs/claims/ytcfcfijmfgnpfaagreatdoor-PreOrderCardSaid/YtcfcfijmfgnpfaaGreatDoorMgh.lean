/-
  Joined texts.
-/
import Derived.Deep.RegionWith
import Derived.Deep.CutBlock
import Derived.Deep.RegionLaw
import Derived.Deep.DeepCutAuto
import Derived.Deep.RegionHeld3
import Derived.Test.YtcfcfijmfgnpfaaGreatDoorRows
import Derived.Lib.LaidTab
import Derived.LaidMore
import Derived.MakeChecks
import Derived.OpenShut
import Derived.FnData
import Derived.WalkKit
import Derived.Test.YtcfcfijmfgnpfaaGreatDoorChecked
import Derived.Maps.OwnSet
import Derived.Lib.Hide
import Derived.Lib.SlKeysI
import Derived.Below
import Derived.Sort.KeysCollected
import Derived.WideKeyPair
import Derived.Test.YtcfcfijmfgnpfaaGreatDoorMgg

section
namespace Go.Proofs.YtcfcfijmfgnpfaaGreatDoor
open Go.RowKit
set_option linter.unusedVariables false
set_option linter.unusedSimpArgs false

/-- The last of a row of one's own, laid anew. -/
theorem OwnR.last {B : Nat} {v : Value} {xs : List C4} {z : C4} {W : World} (h : OwnR rowC B v (xs ++ [z]) W) : ∃ g cap, v = .slice (some ⟨g, 0, none⟩) (xs.length + 1) cap ∧ B ≤ g ∧ g < W.heap.size ∧ W.there g (xs.length * 4) 4 ∧ ∀ y, OwnR rowC B v (xs ++ [y]) (W.setCells g (xs.length * 4) (c4 y)) := by
  have h0 := h
  obtain ⟨h1, h2⟩ := h
  have hk : rowC.k = 4 := rfl
  have hT : ∀ xs : List C4, (rowC.all xs).length = xs.length * 4 := fun xs => rowC.all_len xs
  rcases h2 with ⟨-, hn⟩ | ⟨g, cap, cur, rfl, hb, hg, hn, hm, hs, ht⟩
  · simp at hn
  · have e : cur.toList = rowC.all xs ++ (c4 z ++ cur.toList.drop ((xs ++ [z]).length * 4)) := by
      have e1 := (List.take_append_drop ((xs ++ [z]).length * 4) cur.toList).symm
      rw [rowC.all_append, rowC.all_one] at ht
      have ht' : cur.toList.take ((xs ++ [z]).length * 4) = rowC.all xs ++ c4 z := ht
      rw [ht', List.append_assoc] at e1
      exact e1
    have hcur : cur = (rowC.all xs ++ (c4 z ++ cur.toList.drop ((xs ++ [z]).length * 4))).toArray := by rw [← e]
    have hlen : xs.length * 4 + 4 ≤ cur.size := by
      have := congrArg List.length e
      rw [List.length_append, List.length_append, hT] at this
      have h4 : (c4 z).length = 4 := rfl
      rw [h4] at this
      simp only [Array.length_toList] at this
      omega
    refine ⟨g, cap, by simp, hb, (h0.block rfl).2, fun j hj => ⟨?_, frozen_of_row _ _ _ _ _ hg⟩, fun y => ⟨?_, Or.inr ⟨g, cap, (rowC.all xs ++ (c4 y ++ cur.toList.drop ((xs ++ [z]).length * 4))).toArray, ?_, hb, ?_, ?_, hm, ?_, ?_⟩⟩⟩
    · rw [World.cell?, hg]
      have : xs.length * 4 + j < cur.size := by omega
      simp [this]
    · simp only [List.length_append, List.length_singleton] at h1 ⊢
      rw [hT]
      simp [hk]
    · simp
    · rw [hcur] at hg
      have h5 := setCells_mid (c4 y) (rowC.all xs) (c4 z) (cur.toList.drop ((xs ++ [z]).length * 4)) W hg rfl
      rw [hT] at h5
      exact h5
    · simpa using hn
    · rw [← hs]
      have h6 := congrArg List.length e
      simp only [Array.length_toList] at h6
      rw [h6]
      simp [c4]
    · rw [rowC.all_append, rowC.all_one]
      have h7 : (rowC.all xs ++ rowC.f y).length = (xs ++ [y]).length * rowC.k := by rw [List.length_append, hT]; simp [rowC, c4]; omega
      rw [← h7, ← List.append_assoc]
      exact List.take_left
theorem fields_apart {w0 W : World} {rb cb bx b m pb po : Nat} {x : Int} {v : Value} {l : List Nat} (hm : 0 < m) (hcx : W.cell? ⟨bx, 0, none⟩ = some (.slice (some ⟨b, 0, none⟩) m m)) (hrv : W.cell? ⟨b, 0, none⟩ = some (.pointer (some ⟨pb, po, none⟩)))
    (hrb : RBx W rb v) (hr : RdB w0 v l) (h0 : Below w0.heap.size w0 W) (hcb : W.cell? ⟨cb, 0, none⟩ = some (.int .i64 x)) : (bx ≠ rb ∧ bx ≠ cb) ∧ (b ≠ rb ∧ b ≠ cb) := by
  have hv := hrb.cell
  refine ⟨⟨?_, ?_⟩, ?_, ?_⟩
  · rintro rfl
    rw [hv] at hcx
    injection hcx with e
    rcases hr.below h0 with ⟨e2, -⟩ | ⟨a, cap, e2, -, hcell⟩
    · rw [e2] at e; cases e
    · rw [e2] at e
      injection e with e3 e4 e5
      injection e3 with e3
      subst e3
      have := hcell 0 (by omega)
      rw [show (⟨b, 0, none⟩ : Addr).add 0 = ⟨b, 0, none⟩ from by simp [Addr.add], hrv] at this
      cases this
  · rintro rfl; rw [hcb] at hcx; cases hcx
  · rintro rfl
    rw [hv] at hrv
    injection hrv with e
    rcases hr with ⟨e2, -⟩ | ⟨a, cap, e2, -⟩ <;> · rw [e2] at e; cases e
  · rintro rfl; rw [hcb] at hrv; cases hrv
theorem wpl_storeD {w : World} {ops : Array Oper} {rest : List Oper} {o : Oper} {a : Act} {Q : Exit → Act → World → Prop} {b : Nat} {old vs : Array Value} (x y : Operand) (hgd : o.guard = none) (ho : o.op = .store 45 x y) (hx : a.eval x = .pointer (some ⟨b, 0, none⟩)) (hy : a.eval y = .agg vs)
    (hh : w.heap[b]? = some (.cells old 45 (0, 0))) (hl : vs.size = 4) (hl0 : old.size = 4) (h1 : vs.all (fun u => u.oneCell') = true)
    (h : wpList Tryz.prog ops Q rest (a.put o.dst undef) (w.setRow b vs)) : wpList Tryz.prog ops Q (o :: rest) a w := by
  refine wpList_plain hgd fun K hK => ?_
  unfold Oper.wp execOp
  have hr : (Instr.storeAt 45 (.pointer (some ⟨b, 0, none⟩)) (.agg vs)).run Tryz.prog w = .ok () (w.setRow b vs) := by
    simp only [Instr.storeAt, Instr.sureAddr, Sem.run_bind, Sem.run_pure, Result.andThen_ok, run_storeVar_row w b 45 45 old vs hh (by rw [hl]; exact sizeC) (by rw [hl, hl0]) h1]
  simp only [ho, hx, hy, Sem.run_bind, Sem.run_pure, hr, Result.andThen_ok]
  exact hK _ _ h
theorem ones4D (a b c : Int) (ao : Option Addr) (m n : Nat) : (#[Value.int .i64 a, .int .i64 b, .int .i64 c, .slice ao m n].all (fun u => u.oneCell')) = true := by simp [Value.oneCell']
abbrev zero4 : Array Value := #[.int .i64 0, .int .i64 0, .int .i64 0, .slice none 0 0]
abbrev HXs (W1 : World) (cb rb rs : Nat) (v : Value) : Prop := RBx W1 rb v ∧ W1.heap[cb]? = some (.cells zero4 45 (0, 0)) ∧ W1.heap[rs]? = some (.cells zero4 45 (0, 0))
abbrev HNs (w W1 : World) (cb rb rs : Nat) : Prop := cb ≠ rb ∧ rs ≠ cb ∧ rs ≠ rb ∧ w.heap.size ≤ rs ∧ w.heap.size < cb ∧ w.heap.size < rb ∧ rs < W1.heap.size ∧ cb < W1.heap.size ∧ rb < W1.heap.size
abbrev HFs (W1 w2 : World) (cb bx bb : Nat) : Prop := Below W1.heap.size W1 w2 ∧ w2.cell? ⟨bx, 0, none⟩ = some (.slice (some ⟨bb, 0, none⟩) 3 3) ∧ RowV w2 bb [.pointer (some ⟨cb, 0, none⟩), .pointer (some ⟨cb, 0 + 1, none⟩), .pointer (some ⟨cb, 0 + 2, none⟩)] ∧ bx < w2.heap.size ∧ bb < w2.heap.size
abbrev H3s (w w2 w3 : World) (cb rb : Nat) (l : List Nat) : Prop := (Grow w2 w3 ∧ ∀ k, k < w2.heap.size → k ≠ rb → k ≠ cb → w3.heap[k]? = w2.heap[k]?) ∧ ∃ v', RBx w3 rb v' ∧ RdB w v' (rdN (rdN (rdN l).2).2).2 ∧ w3.heap[cb]? = some (.cells #[.int .i64 ((rdN l).1 : Nat), .int .i64 ((rdN (rdN l).2).1 : Nat), .int .i64 ((rdN (rdN (rdN l).2).2).1 : Nat), .slice none 0 0] 45 (0, 0))
theorem rd_fill {w W1 w2 : World} {cb rb rs bx bb : Nat} {v : Value} {l : List Nat} (hr : RdB w v l) (hby : ByL l) (hB1 : Below w.heap.size w W1) (hX : HXs W1 cb rb rs v) (hN : HNs w W1 cb rb rs) (hF : HFs W1 w2 cb bx bb) :
    Calls Tryz.prog 89 #[.pointer (some ⟨rb, 0, none⟩), .func (.func 121) #[] #[.pointer (some ⟨bx, 0, none⟩)]] w2 fun e w' => (∃ u, e = .returned u) ∧ H3s w w2 w' cb rb l := by
  obtain ⟨n1, n2, n3, n4, n5, n6, n7, n8, n9⟩ := hN
  obtain ⟨x1, x2, x3⟩ := hX
  obtain ⟨f1, f2, f3, f4, f5⟩ := hF
  have hrb2 : RBx w2 rb v := (f1.block rb n9).trans x1
  have hca2 := (f1.block cb n8).trans x2
  have hB2 : Below w.heap.size w w2 := hB1.trans (f1.mono hB1.size)
  have hc0 : w2.cell? ⟨cb, 0, none⟩ = some (.int .i64 0) := by rw [World.cell?, hca2]; rfl
  obtain ⟨⟨a1, a2⟩, a3, a4⟩ := fields_apart (by omega) f2 (f3 0 _ rfl) hrb2 hr hB2 hc0
  refine (code_fill rb cb bx bb 3 45 [0, 1, 2] l zero4 v w w2 hB2 hr hrb2 hby hca2 (Ne.symm n1) ⟨by omega, by omega⟩ (by intro p hp; simp at hp; rcases hp with rfl | rfl | rfl <;> decide) f2 ⟨f4, a1, a2⟩ ⟨f5, a3, a4⟩ f3 (by simp [ptrs])).mono ?_
  rintro e w' ⟨h1, h2, v', h3, h4, h5⟩
  exact ⟨h1, h2, v', h3, h4, h5⟩
theorem rd_num {w W1 w2 w3 : World} {cb rb rs bx bb : Nat} {v : Value} {l : List Nat} {d : Nat} (hr : RdB w v l) (hby : ByL l) (hB1 : Below w.heap.size w W1) (hX : HXs W1 cb rb rs v) (hN : HNs w W1 cb rb rs) (hF : HFs W1 w2 cb bx bb) (h3 : H3s w w2 w3 cb rb l) (hrs : rs = w.heap.size) :
    Calls Tryz.prog 90 #[.pointer (some ⟨rb, 0, none⟩)] w3 fun e w' => e = .returned (.int .i64 ((rdN (rdN (rdN (rdN l).2).2).2).1 : Nat)) ∧ ∃ N1, (rb < N1 ∧ cb < N1 ∧ rs < N1) ∧ KSt w cb rb N1 ((rdN l).1 : Nat) ((rdN (rdN l).2).1 : Nat) ((rdN (rdN (rdN l).2).2).1 : Nat) d [] (rd4 l) (.slice none 0 0) [] w' := by
  obtain ⟨n1, n2, n3, n4, n5, n6, n7, n8, n9⟩ := hN
  obtain ⟨x1, x2, x3⟩ := hX
  obtain ⟨f1, f2, f3, f4, f5⟩ := hF
  obtain ⟨⟨g1, g2⟩, v', r1, r2, r3⟩ := h3
  subst hrs
  have hs2 := f1.size
  have hrs3 : w3.heap[w.heap.size]? = some (.cells zero4 45 (0, 0)) := (g2 _ (by omega) n3 n2).trans ((f1.block _ n7).trans x3)
  have hB3 : Below w.heap.size w w3 := ⟨g1.os.trans (f1.os.trans hB1.os), g1.tape.trans (f1.tape.trans hB1.tape), g1.output.trans (f1.output.trans hB1.output), by have := hB1.size; have := g1.size; omega, fun k hk => (g2 k (by omega) (by omega) (by omega)).trans ((f1.block k (by omega)).trans (hB1.block k hk))⟩
  refine (code_number rb v' _ w w3 hB3 r2 r1 hby.rdN.rdN.rdN).mono ?_
  rintro e w' ⟨h1, hg, v2, q1, q2⟩
  have hgs := hg.size
  have hall : ∀ k, k < w3.heap.size → k ≠ rb → w'.heap[k]? = w3.heap[k]? := fun k hk hne => hg.block k hk (by simpa using hne)
  have hs3 := g1.size
  refine ⟨h1, w'.heap.size, ⟨by omega, by omega, by omega⟩, ⟨⟨hg.os.trans hB3.os, hg.tape.trans hB3.tape, hg.output.trans hB3.output, Nat.le_trans hB3.size hgs, fun k hk => (hall k (by omega) (by omega)).trans (hB3.block k hk)⟩, (hall cb (by omega) n1).trans r3, OwnR.nil _ _, rfl, fun i hi => by simp at hi, Nat.le_refl _, ⟨v2, q1, q2⟩, (hall _ (by omega) n3).trans hrs3⟩⟩
/-- What is the same behind an append, the store of the last, and the store of the row. -/
structure AppX (W X : World) (g cb : Nat) (so : Option Nat) : Prop where
  os : X.os = W.os
  tape : X.tape = W.tape
  output : X.output = W.output
  size : W.heap.size ≤ X.heap.size
  block : ∀ x, x < W.heap.size → x ≠ g → x ≠ cb → some x ≠ so → X.heap[x]? = W.heap[x]?
theorem kst_fin {w : World} {cb rb N1 : Nat} {k t n : Int} {d : Nat} {ks : List Cl} {R : List Nat} {s : Value} {ys : List C4} {W X : World} {g cap8 : Nat} {C : Cl} {y : C4} {N2 : Nat} (h : KSt w cb rb N1 k t n d ks R s ys W) (hcb : cb < N1) (hwcb : w.heap.size < cb) (hrb : rb < N1) (hwrb : w.heap.size < rb) (hcr : cb ≠ rb)
    (hkid : RdZ (fun b => b < N2) W d (.agg (c4 y).toArray) C) (hN2 : ∀ b, s.ownBlock = some b → b < N2) (hN12 : N1 ≤ N2) (hg : s.ownBlock = some g ∨ g = W.heap.size) (hX : AppX W X g cb s.ownBlock)
    (hcat : X.heap[cb]? = some (.cells #[.int .i64 k, .int .i64 t, .int .i64 n, .slice (some ⟨g, 0, none⟩) (ys.length + 1) cap8] 45 (0, 0)))
    (hown : OwnR rowC N1 (.slice (some ⟨g, 0, none⟩) (ys.length + 1) cap8) (ys ++ [y]) X) : KSt w cb rb N1 k t n d (ks ++ [C]) R (.slice (some ⟨g, 0, none⟩) (ys.length + 1) cap8) (ys ++ [y]) X := by
  obtain ⟨v', r1, r2⟩ := h.rdr
  have hgN : N1 ≤ g := (hown.block (k := g) rfl).1
  have hso : ∀ b, s.ownBlock = some b → N1 ≤ b := fun b hb => (h.own.block hb).1
  have lo : ∀ x, x < W.heap.size → x < N1 → x ≠ cb → X.heap[x]? = W.heap[x]? := fun x hx hxN hne => hX.block x hx (by omega) hne (fun e => by have := hso x e.symm; omega)
  have hws := h.old.size
  refine ⟨⟨hX.os.trans h.old.os, hX.tape.trans h.old.tape, hX.output.trans h.old.output, Nat.le_trans hws hX.size, fun x hx => (lo x (by omega) (by omega) (by omega)).trans (h.old.block x hx)⟩, hcat, hown, by rw [List.length_append, List.length_append, h.len]; rfl, fun i hi hk => ?_, Nat.le_trans h.sz hX.size, ⟨v', (lo rb r1.lt hrb (Ne.symm hcr)).trans r1, r2⟩, (lo _ (Array.getElem?_eq_some_iff.1 h.rs).1 (by omega) (by omega)).trans h.rs⟩
  have hlen := h.len
  by_cases hiy : i < ys.length
  · have e1 : (ys ++ [y])[i] = ys[i] := List.getElem_append_left hiy
    have e2 : (ks ++ [C])[i] = ks[i]'(by omega) := List.getElem_append_left (by omega)
    rw [e1, e2]
    refine RdZ.keep hX.size (fun x hx hz => ?_) (fun x hx hz => ?_) (h.kids i hiy (by omega))
    · rcases hz with hz | hz
      · exact Or.inl hz
      · have hz' : g = x := by simpa [Value.ownBlock] using hz
        subst hz'
        rcases hg with hg | hg
        · exact Or.inr hg
        · omega
    · refine hX.block x hx (fun e => hz ?_) (fun e => hz (Or.inl (by omega))) (fun e => hz (Or.inr e.symm))
      subst e
      rcases hg with hg | hg
      · exact Or.inr hg
      · omega
  · have hie : i = ys.length := by rw [List.length_append, List.length_singleton] at hi; omega
    subst hie
    have e1 : (ys ++ [y])[ys.length] = y := by simp
    have e2 : (ks ++ [C])[ys.length] = C := by simp [hlen]
    rw [e1, e2]
    refine RdZ.keep hX.size (fun x hx hz => ?_) (fun x hx hz => ?_) hkid
    · show x < N2
      rcases hz with hz | hz
      · omega
      · have hz' : g = x := by simpa [Value.ownBlock] using hz
        subst hz'
        rcases hg with hg | hg
        · exact hN2 _ hg
        · omega
    · have hz' : ¬ x < N2 := hz
      refine hX.block x hx (fun e => ?_) (by omega) (fun e => by have := hN2 x e.symm; omega)
      subst e
      rcases hg with hg | hg
      · have := hN2 _ hg; omega
      · omega
def appC (args : Array Value) : Sem Value := Builtin.append_ #[43, 43] 43 args
theorem appC_hide (args : Array Value) : Builtin.append_ #[43, 43] 43 args = appC args := rfl
def AppQ (w : World) (cb rb N1 : Nat) (k t n : Int) (d : Nat) (ks : List Cl) (R : List Nat) (s : Value) (ys : List C4) (W : World) (C : Cl) (y : C4) (ub : Nat) : Prop :=
    ∃ g cap8 w8, (appC #[s, .slice (some ⟨ub, 0, none⟩) 1 1]).run Tryz.prog W = .ok (.slice (some ⟨g, 0, none⟩) (ys.length + 1) cap8) w8 ∧
      (storeC (.pointer (some ⟨g, ys.length * 4, none⟩)) (.agg (c4 y).toArray)).run Tryz.prog w8 = .ok () (w8.setCells g (ys.length * 4) (c4 y)) ∧
      (storeC (.pointer (some ⟨g, ys.length * 4, none⟩)) (.agg (c4 y).toArray)).run Tryz.prog (w8.setCell ⟨cb, 3, none⟩ (.slice (some ⟨g, 0, none⟩) (ys.length + 1) cap8)) = .ok () ((w8.setCell ⟨cb, 3, none⟩ (.slice (some ⟨g, 0, none⟩) (ys.length + 1) cap8)).setCells g (ys.length * 4) (c4 y)) ∧
      (w8.cell? ⟨cb, 3, none⟩ = some s ∧ w8.frozen? ⟨cb, 3, none⟩ = false) ∧ ((w8.setCells g (ys.length * 4) (c4 y)).cell? ⟨cb, 3, none⟩ = some s ∧ (w8.setCells g (ys.length * 4) (c4 y)).frozen? ⟨cb, 3, none⟩ = false) ∧
      KSt w cb rb N1 k t n d (ks ++ [C]) R (.slice (some ⟨g, 0, none⟩) (ys.length + 1) cap8) (ys ++ [y]) ((w8.setCells g (ys.length * 4) (c4 y)).setCell ⟨cb, 3, none⟩ (.slice (some ⟨g, 0, none⟩) (ys.length + 1) cap8)) ∧
      KSt w cb rb N1 k t n d (ks ++ [C]) R (.slice (some ⟨g, 0, none⟩) (ys.length + 1) cap8) (ys ++ [y]) ((w8.setCell ⟨cb, 3, none⟩ (.slice (some ⟨g, 0, none⟩) (ys.length + 1) cap8)).setCells g (ys.length * 4) (c4 y))
theorem kst_app {w : World} {cb rb N1 : Nat} {k t n : Int} {d : Nat} {ks : List Cl} {R : List Nat} {s : Value} {ys : List C4} {W : World} {C : Cl} {y : C4} {N2 ub : Nat} (h : KSt w cb rb N1 k t n d ks R s ys W) (hcb : cb < N1) (hwcb : w.heap.size < cb) (hrb : rb < N1) (hwrb : w.heap.size < rb) (hcr : cb ≠ rb)
    (hU : W.heap[ub]? = some (.cells zero4 45 (0, 0))) (hkid : RdZ (fun b => b < N2) W d (.agg (c4 y).toArray) C) (hN2 : ∀ b, s.ownBlock = some b → b < N2) (hN12 : N1 ≤ N2) (hlen : ys.length ≤ 1000) :
    AppQ w cb rb N1 k t n d ks R s ys W C y ub := by
  have hlt : cb < W.heap.size := (Array.getElem?_eq_some_iff.1 h.cat).1
  obtain ⟨v8, w8, hrun, ho, hg, hat, -⟩ := run_appR (r := rowC) (y := z4) h.own (ub := ub) (fun j u hj => by rw [Nat.zero_add, World.cell?, hU]; simpa [rowC, c4, z4] using hj) (by omega) h.sz 43
  obtain ⟨g, cap8, rfl, hg1, hg2, hth, hlast⟩ := ho.last
  have hso : ∀ b, s.ownBlock = some b → N1 ≤ b := fun b hb => (h.own.block hb).1
  have hgo : s.ownBlock = some g ∨ g = W.heap.size := by
    rcases hat with e | e
    · exact Or.inl (by rw [← e]; rfl)
    · right
      have : (Value.slice (some ⟨g, 0, none⟩) (ys.length + 1) cap8).ownBlock = some g := rfl
      rw [this] at e
      injection e
  have hcat8 : w8.heap[cb]? = some (.cells #[.int .i64 k, .int .i64 t, .int .i64 n, s] 45 (0, 0)) := (hg.block cb hlt (fun e => by have := hso cb e.symm; omega)).trans h.cat
  have hcg : cb ≠ g := by omega
  have hS1 : ∀ (V : World), (V.setCells g (ys.length * 4) (c4 y)).heap.size = V.heap.size ∧ (V.setCells g (ys.length * 4) (c4 y)).os = V.os ∧ (V.setCells g (ys.length * 4) (c4 y)).tape = V.tape ∧ (V.setCells g (ys.length * 4) (c4 y)).output = V.output := fun V => by
    simp [c4, World.setCells, World.setCell]
  have hcat9 : (w8.setCells g (ys.length * 4) (c4 y)).heap[cb]? = some (.cells #[.int .i64 k, .int .i64 t, .int .i64 n, s] 45 (0, 0)) := (setCells_other hcg _ _ _).trans hcat8
  have hth2 : (w8.setCell ⟨cb, 3, none⟩ (.slice (some ⟨g, 0, none⟩) (ys.length + 1) cap8)).there g (ys.length * 4) 4 := fun j hj => by
    obtain ⟨q1, q2⟩ := hth j hj
    have e : (w8.setCell ⟨cb, 3, none⟩ (.slice (some ⟨g, 0, none⟩) (ys.length + 1) cap8)).heap[g]? = w8.heap[g]? := heap_setCell_other _ _ _ _ (by show g ≠ cb; omega)
    exact ⟨by rw [World.cell?_of_block (a := ⟨g, ys.length * 4 + j, none⟩) e]; exact q1, by rw [World.frozen?_of_block (a := ⟨g, ys.length * 4 + j, none⟩) e]; exact q2⟩
  have hc3 : w8.cell? ⟨cb, 3, none⟩ = some s := by rw [World.cell?, hcat8]; rfl
  have hc39 : (w8.setCells g (ys.length * 4) (c4 y)).cell? ⟨cb, 3, none⟩ = some s := by rw [World.cell?, hcat9]; rfl
  have hlo := hlast y
  refine ⟨g, cap8, w8, hrun, run_storeAt_mid w8 g (ys.length * 4) 45 (c4 y).toArray hth (by kernel_rfl) (by simp [c4, Value.oneCell']), run_storeAt_mid _ g (ys.length * 4) 45 (c4 y).toArray hth2 (by kernel_rfl) (by simp [c4, Value.oneCell']), ⟨hc3, frozen_of_row _ _ _ _ _ hcat8⟩, ⟨hc39, frozen_of_row _ _ _ _ _ hcat9⟩, ?_, ?_⟩
  · refine kst_fin h hcb hwcb hrb hwrb hcr hkid hN2 hN12 hgo ⟨?_, ?_, ?_, ?_, fun x hx h1 h2 h3 => ?_⟩ ?_ ?_
    · exact (hS1 w8).2.1.trans hg.os
    · exact (hS1 w8).2.2.1.trans hg.tape
    · exact (hS1 w8).2.2.2.trans hg.output
    · show W.heap.size ≤ ((w8.setCells g (ys.length * 4) (c4 y)).setCell _ _).heap.size
      rw [show ((w8.setCells g (ys.length * 4) (c4 y)).setCell ⟨cb, 3, none⟩ (.slice (some ⟨g, 0, none⟩) (ys.length + 1) cap8)).heap.size = (w8.setCells g (ys.length * 4) (c4 y)).heap.size from by simp [World.setCell], (hS1 w8).1]
      exact hg.size
    · exact (heap_setCell_other _ _ _ _ (by show x ≠ cb; exact h2)).trans ((setCells_other h1 _ _ _).trans (hg.block x hx h3))
    · exact heap_setCell_same _ _ _ _ _ _ hcat9
    · exact hlo.of (Nat.le_refl _) (fun x hx => heap_setCell_other _ _ _ _ (by have hgx : g = x := (by simpa [Value.ownBlock] using hx); show x ≠ cb; omega))
  · have hv6 := heap_setCell_same w8 cb 3 _ _ (.slice (some ⟨g, 0, none⟩) (ys.length + 1) cap8) hcat8
    have hv5 : ∀ x, x ≠ cb → (w8.setCell ⟨cb, 3, none⟩ (.slice (some ⟨g, 0, none⟩) (ys.length + 1) cap8)).heap[x]? = w8.heap[x]? := fun x hx => heap_setCell_other _ _ _ _ hx
    have hv4 : (w8.setCell ⟨cb, 3, none⟩ (.slice (some ⟨g, 0, none⟩) (ys.length + 1) cap8)).heap.size = w8.heap.size := by simp [World.setCell]
    have hv1 : (w8.setCell ⟨cb, 3, none⟩ (.slice (some ⟨g, 0, none⟩) (ys.length + 1) cap8)).os = w8.os := rfl
    have hv2 : (w8.setCell ⟨cb, 3, none⟩ (.slice (some ⟨g, 0, none⟩) (ys.length + 1) cap8)).tape = w8.tape := rfl
    have hv3 : (w8.setCell ⟨cb, 3, none⟩ (.slice (some ⟨g, 0, none⟩) (ys.length + 1) cap8)).output = w8.output := rfl
    have ho2 : OwnR rowC N1 (.slice (some ⟨g, 0, none⟩) (ys.length + 1) cap8) (ys ++ [z4]) (w8.setCell ⟨cb, 3, none⟩ (.slice (some ⟨g, 0, none⟩) (ys.length + 1) cap8)) := ho.of (Nat.le_refl _) (fun x hx => hv5 x (by have hgx : g = x := (by simpa [Value.ownBlock] using hx); omega))
    generalize w8.setCell ⟨cb, 3, none⟩ (.slice (some ⟨g, 0, none⟩) (ys.length + 1) cap8) = V9 at *
    refine kst_fin h hcb hwcb hrb hwrb hcr hkid hN2 hN12 hgo ⟨?_, ?_, ?_, ?_, fun x hx h1 h2 h3 => ?_⟩ ?_ ?_
    · exact (hS1 V9).2.1.trans (hv1.trans hg.os)
    · exact (hS1 V9).2.2.1.trans (hv2.trans hg.tape)
    · exact (hS1 V9).2.2.2.trans (hv3.trans hg.output)
    · rw [(hS1 V9).1, hv4]; exact hg.size
    · exact (setCells_other h1 _ _ _).trans ((hv5 x h2).trans (hg.block x hx h3))
    · exact (setCells_other hcg _ _ _).trans hv6
    · obtain ⟨g', cap', e, -, -, -, hl2⟩ := ho2.last
      have hgg : g = g' := by
        have e1 := congrArg Value.ownBlock e
        simpa [Value.ownBlock] using e1
      subst hgg
      exact hl2 y
theorem rd_end {w W : World} {cb rb N1 rs : Nat} {k t n : Int} {d : Nat} {ks : List Cl} {R : List Nat} {s : Value} {ys : List C4} (h : KSt w cb rb N1 k t n d ks R s ys W) (hrs : rs = w.heap.size) (hN : rs < N1) {C : Cl} (hC : C = .mk k t n ks) :
    RdZ (fun b => b < w.heap.size) (W.setRow rs #[.int .i64 k, .int .i64 t, .int .i64 n, s]) (d + 1) (.agg #[.int .i64 k, .int .i64 t, .int .i64 n, s]) C ∧ Below w.heap.size w (W.setRow rs #[.int .i64 k, .int .i64 t, .int .i64 n, s]) ∧ (W.setRow rs #[.int .i64 k, .int .i64 t, .int .i64 n, s]).heap[rs]? = some (.cells #[.int .i64 k, .int .i64 t, .int .i64 n, s] 45 (0, 0)) := by
  subst hrs
  subst hC
  have hh := setRow_heap W _ _ #[.int .i64 k, .int .i64 t, .int .i64 n, s] _ _ h.rs
  have ho : ∀ x, x ≠ w.heap.size → (W.setRow w.heap.size #[.int .i64 k, .int .i64 t, .int .i64 n, s]).heap[x]? = W.heap[x]? := fun x hx => setRow_other _ _ _ _ hx
  have hsz : (W.setRow w.heap.size #[.int .i64 k, .int .i64 t, .int .i64 n, s]).heap.size = W.heap.size := by simp
  have := h.old.size
  exact ⟨RdZ.keep (by omega) (fun x _ hx => by show x < N1; have hx' : x < w.heap.size := hx; omega) (fun x _ hx => ho x (fun e => hx (by show x < N1; omega))) h.out, h.old.trans ⟨rfl, rfl, rfl, by omega, fun x hx => ho x (by omega)⟩, hh⟩
end Go.Proofs.YtcfcfijmfgnpfaaGreatDoor
end

section
namespace Go.Proofs.YtcfcfijmfgnpfaaGreatDoor
open Go.RowKit
set_option linter.unusedVariables false
set_option linter.unusedSimpArgs false

def RdCall (q : Nat) : Prop := ∀ (v : Value) (l : List Nat) (w : World), RdB w v l → ByL l → Calls Tryz.prog 69 #[v, .int .i64 (q : Int)] w fun e w' => ∃ u, e = .returned u ∧ RdZ (fun b => b < w.heap.size) w' (q + 1) u (readC q l) ∧ Below w.heap.size w w'
theorem row_K {w : World} {cb rb N1 : Nat} {k t n : Int} {d : Nat} {ks : List Cl} {R : List Nat} {s : Value} {ys : List C4} {W : World} (h : KSt w cb rb N1 k t n d ks R s ys W) (hby : ByL R) (hw : w.heap.size < rb) (hcr : cb ≠ rb) (hrN : rb < N1) :
    Calls Tryz.prog 91 #[.pointer (some ⟨rb, 0, none⟩)] W fun e w' => ∃ u, e = .returned u ∧ RdB w' u (rdR R).1 ∧ KSt w cb rb N1 k t n d ks (rdR R).2 s ys w' ∧ W.grownBy w' (some rb) := by
  obtain ⟨v', r1, r2⟩ := h.rdr
  refine (code_row rb v' R w W h.old r2 r1 hby).mono ?_
  rintro e w' ⟨u, rfl, h1, h2, v2, h3, h4⟩
  exact ⟨u, rfl, h1.reads, h.row hw hcr hrN h2 h3 h4, h2⟩
theorem read_K {q' : Nat} (ih : RdCall q') {w : World} {cb rb N1 : Nat} {k t n : Int} {d : Nat} {ks : List Cl} {R p : List Nat} {s u : Value} {ys : List C4} {W : World} (h : KSt w cb rb N1 k t n d ks R s ys W) (hu : RdB W u p) (hp : ByL p) :
    Calls Tryz.prog 69 #[u, .int .i64 (q' : Int)] W fun e w' => ∃ y : C4, e = .returned (.agg (c4 y).toArray) ∧ RdZ (fun b => b < W.heap.size) w' (q' + 1) (.agg (c4 y).toArray) (readC q' p) ∧ KSt w cb rb N1 k t n d ks R s ys w' ∧ Below W.heap.size W w' := by
  refine (ih u p W hu hp).mono ?_
  rintro e w' ⟨v, rfl, h1, h2⟩
  obtain ⟨ao, cap, e⟩ := h1.cells
  refine ⟨((readC q' p).k, (readC q' p).t, (readC q' p).n, ao, (readC q' p).kids.length, cap), by rw [e]; rfl, by rw [e] at h1; exact h1, h.keep h2, h2⟩
theorem KSt.c3 {w : World} {cb rb N1 : Nat} {k t n : Int} {d : Nat} {ks : List Cl} {R : List Nat} {s : Value} {ys : List C4} {W : World} (h : KSt w cb rb N1 k t n d ks R s ys W) : W.cell? ⟨cb, 3, none⟩ = some s := by rw [World.cell?, h.cat]; rfl
theorem bel_alloc (W : World) (o : Obj) : Below W.heap.size W (W.alloc o) := (Below.refl _ W).alloc (Nat.le_refl _) _
theorem bel_drew (W : World) : Below W.heap.size W W.drew := (Below.refl _ W).drew
theorem KSt.app {w : World} {cb rb N1 : Nat} {k t n : Int} {d : Nat} {ks : List Cl} {R : List Nat} {s : Value} {ys : List C4} {W : World} {C : Cl} {y : C4} {N2 ub : Nat} (h : KSt w cb rb N1 k t n d ks R s ys W) (hN : cb < N1 ∧ w.heap.size < cb ∧ rb < N1 ∧ w.heap.size < rb ∧ cb ≠ rb)
    (hU : W.heap[ub]? = some (.cells zero4 45 (0, 0))) (hkid : RdZ (fun b => b < N2) W d (.agg (c4 y).toArray) C) {V : World} {R' : List Nat} (hV : KSt w cb rb N1 k t n d ks R' s ys V) (hV2 : V.heap.size = N2) (hlen : ys.length ≤ 1000) : AppQ w cb rb N1 k t n d ks R s ys W C y ub :=
  kst_app h hN.1 hN.2.1 hN.2.2.1 hN.2.2.2.1 hN.2.2.2.2 hU hkid (fun b hb => by rw [← hV2]; exact (hV.own.block hb).2) (by rw [← hV2]; exact hV.sz) hlen
theorem step_appC {ops : Array Oper} {o : Oper} {a : Act} {w w' : World} {K : Act → World → Prop} {Q : Exit → Act → World → Prop} {E : Prop} {u v v' : Value} (hg : o.guard = none) (d x : Operand)
    (hop : o.op = Op.call { callee := Callee.builtin Builtin.append, args := #[d, x], argTypes := #[43, 43] }) (hty : o.type = 43) (hd : a.eval d = v) (hx : a.eval x = u) (hrun : (appC #[v, u]).run Tryz.prog w = .ok v' w') (hK : K (a.put o.dst v') w') :
    if Region.wanted o (yielded ops a.tmps) = true then Oper.wp Tryz.prog o a w K Q else E := by
  rw [if_pos (by simp [Region.wanted, hg])]
  unfold Oper.wp
  unfold appC at hrun
  simp [execOp, hop, hty, resolve, invoke, builtin, hd, hx, hrun, Result.andThen]
  exact hK
attribute [local go_sem ↓] store_c
set_option maxHeartbeats 8000000 in
set_option maxRecDepth 100000 in
theorem code_readCallH (q : Nat) (hq : q ≤ 3) (ih : ∀ q', q = q' + 1 → RdCall q') : RdCall q := by
  intro v l w hr hby
  obtain ⟨ao, cap, hv⟩ := hr.lenOf
  obtain ⟨m, hm⟩ : ∃ m, m = l.length := ⟨_, rfl⟩
  rw [← hm] at hv
  subst hv
  obtain ⟨W1, hW1⟩ : ∃ W1, W1 = ((w.alloc (.cells #[.int .i64 0, .int .i64 0, .int .i64 0, .slice none 0 0] 45)).alloc (.cells #[.int .i64 0, .int .i64 0, .int .i64 0, .slice none 0 0] 45)).alloc (.cells #[.slice ao m cap] 154) := ⟨_, rfl⟩
  obtain ⟨rs, hrs⟩ : ∃ b, b = w.heap.size := ⟨_, rfl⟩
  obtain ⟨cb, hcb⟩ : ∃ b, b = w.heap.size + 1 := ⟨_, rfl⟩
  obtain ⟨rb, hrb⟩ : ∃ b, b = w.heap.size + 1 + 1 := ⟨_, rfl⟩
  have hs1 : W1.heap.size = w.heap.size + 3 := by rw [hW1]; simp
  have hB1 : Below w.heap.size w W1 := by rw [hW1]; exact (((Below.refl _ w).alloc (Nat.le_refl _) _).alloc (by simp) _).alloc (by simp; omega) _
  have hrx1 : RBx W1 rb (.slice ao m cap) := by
    have h := World.alloc_heap_new ((w.alloc (.cells #[.int .i64 0, .int .i64 0, .int .i64 0, .slice none 0 0] 45)).alloc (.cells #[.int .i64 0, .int .i64 0, .int .i64 0, .slice none 0 0] 45)) (.cells #[.slice ao m cap] 154)
    rw [World.size_alloc, World.size_alloc, ← hW1, ← hrb] at h
    exact h
  have hca1 : W1.heap[cb]? = some (.cells #[.int .i64 0, .int .i64 0, .int .i64 0, .slice none 0 0] 45 (0, 0)) := by
    have h := World.alloc_heap_new (w.alloc (.cells #[.int .i64 0, .int .i64 0, .int .i64 0, .slice none 0 0] 45)) (.cells #[.int .i64 0, .int .i64 0, .int .i64 0, .slice none 0 0] 45)
    rw [World.size_alloc, ← hcb] at h
    rw [hW1]
    exact (Below.heap_alloc _ _ _ (by simp; omega)).trans h
  have hrs1 : W1.heap[rs]? = some (.cells #[.int .i64 0, .int .i64 0, .int .i64 0, .slice none 0 0] 45 (0, 0)) := by
    have h := World.alloc_heap_new w (.cells #[.int .i64 0, .int .i64 0, .int .i64 0, .slice none 0 0] 45)
    rw [← hrs] at h
    rw [hW1]
    exact (Below.heap_alloc _ _ _ (by simp; omega)).trans ((Below.heap_alloc _ _ _ (by simp; omega)).trans h)
  have HR := Lib.hid hr
  have HBY := Lib.hid hby
  have HW := Lib.hid (And.intro hW1 (And.intro hrs (And.intro hcb hrb)))
  have HB1 := Lib.hid hB1
  have HX1 := Lib.hid (And.intro hrx1 (And.intro hca1 hrs1))
  have HN := Lib.hid (show cb ≠ rb ∧ rs ≠ cb ∧ rs ≠ rb ∧ w.heap.size ≤ rs ∧ w.heap.size < cb ∧ w.heap.size < rb ∧ rs < W1.heap.size ∧ cb < W1.heap.size ∧ rb < W1.heap.size by omega)
  have HIH := Lib.hid ih
  clear hr hm hby hW1 hrs hcb hrb hs1 hB1 hrx1 hca1 hrs1 ih
  go_enter Tryz.func69, Tryz.ntmps69
  go_upto_region 3 with fail
  rw [← HW.out.1, ← HW.out.2.2.2, ← HW.out.2.2.1, ← HW.out.2.1]
  go_upto_region 5 with (first
    | (go_at_call 84; with_reducible refine (code_callFields cb 0 _).mono ?_; rintro e w2 ⟨bx, bb, rfl, hb, hcx, hrv, hx1, hx2⟩; have F2 := Lib.hid (And.intro hb (And.intro hcx (And.intro hrv (And.intro hx1 hx2)))); clear hb hcx hrv hx1 hx2)
    | (go_at_call 89; with_reducible refine (rd_fill HR.out HBY.out HB1.out HX1.out HN.out F2.out).mono ?_; rintro e w3 ⟨⟨u3, rfl⟩, hf⟩; have F3 := Lib.hid hf; clear hf)
    | (go_at_call 90; with_reducible refine (rd_num (d := q) HR.out HBY.out HB1.out HX1.out HN.out F2.out F3.out HW.out.2.1).mono ?_; rintro e w4 ⟨rfl, hf⟩; have F4 := Lib.hid hf; clear hf F3 F2)
    | fail)
  obtain ⟨N1, hN1, hK⟩ := F4.out
  obtain ⟨nk, hnk⟩ : ∃ nk, nk = (rdN (rdN (rdN (rdN l).2).2).2).1 := ⟨_, rfl⟩
  obtain ⟨k0, hk0⟩ : ∃ k, k = (((rdN l).1 : Nat) : Int) := ⟨_, rfl⟩
  obtain ⟨t0, ht0⟩ : ∃ k, k = (((rdN (rdN l).2).1 : Nat) : Int) := ⟨_, rfl⟩
  obtain ⟨n0, hn0⟩ : ∃ k, k = (((rdN (rdN (rdN l).2).2).1 : Nat) : Int) := ⟨_, rfl⟩
  rw [← hk0, ← ht0, ← hn0] at hK
  rw [← hnk]
  have HRS := Lib.hid (show w4.heap[rs]? = some (.cells zero4 45 (0, 0)) by rw [HW.out.2.1]; exact hK.rs)
  have HK := Lib.hid hK
  have HN1 := Lib.hid hN1
  cases q with
  | zero =>
    have hcl : readC 0 l = .mk k0 t0 n0 [] := by rw [readC, hk0, ht0, hn0]
    have HCL := Lib.hid hcl
    clear hK hN1 F4 hnk hk0 ht0 hn0 hcl
    go_wp2_with (first
      | (refine wpl_loadC _ rfl rfl rfl (rangeAt_whole HK.out.cat) rfl ?_)
      | (refine wpl_storeD (vs := #[.int .i64 k0, .int .i64 t0, .int .i64 n0, .slice none 0 0]) _ _ rfl rfl rfl rfl HRS.out rfl rfl (ones4D k0 t0 n0 _ 0 0) ?_)
      | fail)
    obtain ⟨e1, e2, e3⟩ := rd_end HK.out HW.out.2.1 HN1.out.2.2 HCL.out
    obtain ⟨WF, hWF⟩ : ∃ WF, WF = w4.setRow rs #[.int .i64 k0, .int .i64 t0, .int .i64 n0, .slice none 0 0] := ⟨_, rfl⟩
    rw [← hWF] at e1 e2 e3 ⊢
    have z0 : WF.cell? ⟨rs, 0, none⟩ = some (.int .i64 k0) := by rw [World.cell?, e3]; rfl
    have z1 : WF.cell? ⟨rs, 1, none⟩ = some (.int .i64 t0) := by rw [World.cell?, e3]; rfl
    have z2 : WF.cell? ⟨rs, 2, none⟩ = some (.int .i64 n0) := by rw [World.cell?, e3]; rfl
    have z3 : WF.cell? ⟨rs, 3, none⟩ = some (.slice none 0 0) := by rw [World.cell?, e3]; rfl
    have E := Lib.hid (And.intro e1 e2)
    clear e1 e2 e3 hWF
    exact bodyPost_ret (v := .agg #[.int .i64 k0, .int .i64 t0, .int .i64 n0, .slice none 0 0]) (by simp [results, Tryz.results69, Act.put, go_sem, z0, z1, z2, z3]) rfl ⟨_, rfl, E.out⟩
  | succ q' =>
    obtain ⟨M, hM⟩ : ∃ M, M = min nk 4 := ⟨_, rfl⟩
    have hcl : readC (q' + 1) l = .mk k0 t0 n0 (readKs (readC q') M (rd4 l)) := by rw [readC, hk0, ht0, hn0, hM, hnk]
    have E1 : min (nk : Int) 4 = (M : Int) := by omega
    have E2 : (if (nk : Int) ≤ 4 then (nk : Int) else 4) = (M : Int) := by split <;> omega
    have E3 : (if (4 : Int) < (nk : Int) then (4 : Int) else (nk : Int)) = (M : Int) := by split <;> omega
    have E4 : (if (nk : Int) < 4 then (nk : Int) else 4) = (M : Int) := by split <;> omega
    have hM4 : (M : Int) ≤ 4 := by omega
    obtain ⟨Q, hQ⟩ : ∃ Q : Int, Q = ((q' + 1 : Nat) : Int) := ⟨_, rfl⟩
    rw [← hQ]
    have gQ : (Q == 0) = false := by rw [beq_eq_false_iff_ne]; omega
    have gQ2 : decide (Q = 0) = false := decide_eq_false (by omega)
    have gQ3 : IntKind.i64.wrap (Q - 1) = (q' : Int) := by rw [IntWalk.i64_in _ (by omega)]; omega
    have HQ := Lib.hid gQ3
    have gQ4 := gQ3
    have HCL := Lib.hid hcl
    have IH := Lib.hid (HIH.out q' rfl)
    have HE := Lib.hid (And.intro E2 (And.intro E3 E4))
    clear hK hN1 F4 hnk hk0 ht0 hn0 hcl hM hQ gQ3 E2 E3 E4 HIH
    go_wp2_with fail
    go_loopw [18] (fun i wr => ∃ (j : Nat) (s : Value) (ys : List C4), j ≤ M ∧ i = .int .i64 j ∧ KSt w cb rb N1 k0 t0 n0 (q' + 1) (readKs (readC q') j (rd4 l)) (restKs j (rd4 l)) s ys wr) (fun i _ => M - (Go.RowKit.intOf i).toNat)
    case atStart => exact ⟨0, _, _, by omega, rfl, HK.out⟩
    case round =>
      obtain ⟨j, s, ys, hj, rfl, hK⟩ := hrel
      clear HK
      by_cases hlt : j < M
      · have hlt' : (j : Int) < (M : Int) := by omega
        obtain ⟨L0, hL0⟩ : ∃ L0, L0 = restKs j (rd4 l) := ⟨_, rfl⟩
        have hb0 : ByL L0 := by rw [hL0]; exact ByL.restKs (HBY.out.rdN.rdN.rdN.rdN) j
        have hsn := readKs_snoc (readC q') j (rd4 l)
        have hsr := restKs_snoc j (rd4 l)
        have hkl := readKs_len (readC q') j (rd4 l)
        rw [← hL0] at hsn hsr hK
        obtain ⟨ks, hks⟩ : ∃ ks, ks = readKs (readC q') j (rd4 l) := ⟨_, rfl⟩
        rw [← hks] at hsn hkl hK
        have hyl : ys.length = j := by rw [hK.len, hkl]
        obtain ⟨ao2, cap2, hs⟩ := hK.own.lenOf
        rw [hyl] at hs
        subst hs
        have gj0 : (0 : Int) ≤ (j : Int) := by omega
        have gj1 : (j : Int) < ((j + 1 : Nat) : Int) := by omega
        have gj2 : (j : Int) < (j : Int) + 1 := by omega
        have BL := Lib.hid hb0
        have HNN := Lib.hid (show cb < N1 ∧ w.heap.size < cb ∧ rb < N1 ∧ w.heap.size < rb ∧ cb ≠ rb from ⟨HN1.out.2.1, HN.out.2.2.2.2.1, HN1.out.1, HN.out.2.2.2.2.2.1, HN.out.1⟩)
        have c3 := hK.c3
        have c3a := (hK.keep (bel_alloc wr (.cells zero4 45))).c3
        have K0 := Lib.hid (hK.keep (bel_drew wr))
        have K0a := Lib.hid ((hK.keep (bel_alloc wr (.cells zero4 45))).keep (bel_drew _))
        have U0a := Lib.hid (show ((wr.alloc (.cells zero4 45)).drew).heap[wr.heap.size]? = some (.cells zero4 45 (0, 0)) from World.alloc_heap_new wr (.cells zero4 45))
        have S0a := Lib.hid (show wr.heap.size < ((wr.alloc (.cells zero4 45)).drew).heap.size from by show wr.heap.size < (wr.alloc _).heap.size; simp)
        have HYL := Lib.hid hyl
        have HSN := Lib.hid (And.intro hsn hsr)
        have HSR := Lib.hid (show some wr.heap.size ≠ some rb from by have := hK.sz; have := HN1.out.1; simp; omega)
        clear hL0 hb0 hsn hsr hkl hks hyl hK
        go_upto_block 1 with fail
        go_cut [28] (fun p wx => ∃ (s' : Value) (ys' : List C4), KSt w cb rb N1 k0 t0 n0 (q' + 1) (readKs (readC q') (j + 1) (rd4 l)) (restKs (j + 1) (rd4 l)) s' ys' wx)
        case first =>
          go_wp2_with fail
          go_region_law (first
            | (refine step_appC rfl _ _ rfl rfl (by simp [Act.eval, Act.put]) (by simp [Act.eval, Act.put]) r1 ?_)
            | (go_simp; first | (go_at_call 91; with_reducible refine (row_K K0a.out BL.out HNN.out.2.2.2.1 HNN.out.2.2.2.2 HNN.out.2.2.1).mono ?_; rintro e w2 ⟨u2, rfl, hb2, hk2, hg2⟩; have B2 := Lib.hid hb2; have K2 := Lib.hid hk2; have U2 := Lib.hid ((hg2.block wr.heap.size S0a.out HSR.out).trans U0a.out); have c32 := hk2.c3; clear hb2 hk2 hg2) | (go_at_call 91; with_reducible refine (row_K K0.out BL.out HNN.out.2.2.2.1 HNN.out.2.2.2.2 HNN.out.2.2.1).mono ?_; rintro e w2 ⟨u2, rfl, hb2, hk2, hg2⟩; have B2 := Lib.hid hb2; have K2 := Lib.hid hk2; have c32 := hk2.c3; have hk2a := hk2.keep (bel_alloc w2 (.cells zero4 45)); have K2a := Lib.hid hk2a; have c32a := hk2a.c3; have B2a := Lib.hid (hb2.below (bel_alloc w2 (.cells zero4 45))); have U2a := Lib.hid (World.alloc_heap_new w2 (.cells zero4 45)); clear hb2 hk2 hg2 hk2a) | (go_at_call 69; with_reducible refine (read_K IH.out K2.out B2.out (BL.out.row)).mono ?_; rintro e w5 ⟨y5, rfl, hz5, hk5, hb5⟩; have c35 := hk5.c3; have hap := hk5.app HNN.out ((hb5.block _ (Array.getElem?_eq_some_iff.1 U2.out).1).trans U2.out) hz5 K2.out rfl (by have := HYL.out; omega); clear hz5 hk5 hb5; unfold AppQ at hap; obtain ⟨g, cap8, w8, r1, r2, r3, ⟨x1, y1⟩, ⟨x2, y2⟩, F1, F2⟩ := hap; rw [HYL.out] at r1 r2 r3 x2 y2 F1 F2; have FA := Lib.hid F1; have FB := Lib.hid F2; clear F1 F2) | (go_at_call 69; with_reducible refine (read_K IH.out K2a.out B2a.out (BL.out.row)).mono ?_; rintro e w5 ⟨y5, rfl, hz5, hk5, hb5⟩; have c35 := hk5.c3; have hap := hk5.app HNN.out ((hb5.block _ (Array.getElem?_eq_some_iff.1 U2a.out).1).trans U2a.out) hz5 K2a.out rfl (by have := HYL.out; omega); clear hz5 hk5 hb5; unfold AppQ at hap; obtain ⟨g, cap8, w8, r1, r2, r3, ⟨x1, y1⟩, ⟨x2, y2⟩, F1, F2⟩ := hap; rw [HYL.out] at r1 r2 r3 x2 y2 F1 F2; have FA := Lib.hid F1; have FB := Lib.hid F2; clear F1 F2) | (go_at_call 69; with_reducible refine (read_K IH.out K2.out B2.out (BL.out.row)).mono ?_; rintro e w5 ⟨y5, rfl, hz5, hk5, hb5⟩; have c35 := hk5.c3; have hk5a := hk5.keep (bel_alloc w5 (.cells zero4 45)); have c35a := hk5a.c3; have hap := hk5a.app HNN.out (World.alloc_heap_new w5 (.cells zero4 45)) (RdZ.keep (bel_alloc w5 _).size (fun _ _ z => z) (fun x hx _ => (bel_alloc w5 _).block x hx) hz5) K2.out rfl (by have := HYL.out; omega); clear hz5 hk5 hb5 hk5a; unfold AppQ at hap; obtain ⟨g, cap8, w8, r1, r2, r3, ⟨x1, y1⟩, ⟨x2, y2⟩, F1, F2⟩ := hap; rw [HYL.out] at r1 r2 r3 x2 y2 F1 F2; have FA := Lib.hid F1; have FB := Lib.hid F2; clear F1 F2) | fail)
            | fail)
          all_goals go_wp2_with fail
          all_goals go_meet
          all_goals exact ⟨_, _, by rw [HSN.out.1, HSN.out.2]; first | with_reducible exact FA.out | with_reducible exact FB.out | fail⟩
        case rest =>
          obtain ⟨s3, ys3, hk3⟩ := hcut
          have HK3 := Lib.hid hk3
          clear hk3 K0 K0a U0a c3 c3a
          go_wp2_with fail
          go_roundw
          case rel => exact ⟨j + 1, _, _, hlt, by go_num, HK3.out⟩
          case measure => simp [Go.RowKit.intOf]; omega
      · obtain rfl : j = M := by omega
        have hge : ¬ (j : Int) < (j : Int) := by omega
        have HKF := Lib.hid hK
        have HRF := Lib.hid (show wr.heap[rs]? = some (.cells zero4 45 (0, 0)) by rw [HW.out.2.1]; exact hK.rs)
        obtain ⟨ao2, cap2, hs⟩ := hK.own.lenOf
        obtain ⟨m2, hm2⟩ : ∃ m2, m2 = ys.length := ⟨_, rfl⟩
        rw [← hm2] at hs
        subst hs
        clear hK hm2 hlt hj
        go_wp2_with (first
          | (refine wpl_loadC _ rfl rfl rfl (rangeAt_whole HKF.out.cat) rfl ?_)
          | (refine wpl_storeD (vs := #[.int .i64 k0, .int .i64 t0, .int .i64 n0, .slice ao2 m2 cap2]) _ _ rfl rfl rfl rfl HRF.out rfl rfl (ones4D k0 t0 n0 _ _ _) ?_)
          | fail)
        obtain ⟨e1, e2, e3⟩ := rd_end HKF.out HW.out.2.1 HN1.out.2.2 HCL.out
        obtain ⟨WF, hWF⟩ : ∃ WF, WF = wr.setRow rs #[.int .i64 k0, .int .i64 t0, .int .i64 n0, .slice ao2 m2 cap2] := ⟨_, rfl⟩
        rw [← hWF] at e1 e2 e3 ⊢
        have z0 : WF.cell? ⟨rs, 0, none⟩ = some (.int .i64 k0) := by rw [World.cell?, e3]; rfl
        have z1 : WF.cell? ⟨rs, 1, none⟩ = some (.int .i64 t0) := by rw [World.cell?, e3]; rfl
        have z2 : WF.cell? ⟨rs, 2, none⟩ = some (.int .i64 n0) := by rw [World.cell?, e3]; rfl
        have z3 : WF.cell? ⟨rs, 3, none⟩ = some (.slice ao2 m2 cap2) := by rw [World.cell?, e3]; rfl
        have E := Lib.hid (And.intro e1 e2)
        clear e1 e2 e3 hWF
        exact bodyPost_ret (v := .agg #[.int .i64 k0, .int .i64 t0, .int .i64 n0, .slice ao2 m2 cap2]) (by simp [results, Tryz.results69, Act.put, go_sem, z0, z1, z2, z3]) rfl ⟨_, rfl, E.out⟩
theorem code_readCall : ∀ q, q ≤ 3 → RdCall q := by
  intro q
  induction q with
  | zero => intro h; exact code_readCallH 0 h (fun q' e => by omega)
  | succ q ih => intro h; exact code_readCallH (q + 1) h (fun q' e => by obtain rfl : q' = q := by omega
                                                                         exact ih (by omega))
end Go.Proofs.YtcfcfijmfgnpfaaGreatDoor
end

section
namespace Go.Proofs.YtcfcfijmfgnpfaaGreatDoor
open Go.RowKit
set_option linter.unusedVariables false
set_option linter.unusedSimpArgs false

theorem run_loadCG {w : World} {b o : Nat} {vs : List Value} (h : w.rangeAt b o vs) (hl : vs.length = 4) : (loadC (.pointer (some ⟨b, o, none⟩))).run Tryz.prog w = .ok (.agg vs.toArray) w :=
  run_loadAt_mid w b o 45 vs _ h Tryz.underlying45 rfl (by rw [hl]; kernel_rfl)
theorem bel_drewS (W : World) : Below W.heap.size W W.drew := (Below.refl _ W).drew
attribute [local go_sem ↓] load_c
set_option maxHeartbeats 8000000 in
set_option maxRecDepth 100000 in
theorem ref_Same1 (d : Nat) : ∀ (d2 : Nat) (c : Cl) (v u : Value) (w : World), RdC w d v c → RdC w d2 u c → LenC c → Calls Tryz.prog 28 #[v, u] w fun x w' => x = .returned (.bool true) ∧ Below w.heap.size w w' := by
  induction d with
  | zero => intro d2 c v u w h; exact h.elim
  | succ d ih =>
  intro d2 c v u w hrd hrd2 hlen
  obtain ⟨d', ao, cap, hd, rfl, hk1⟩ := hrd.open
  obtain rfl : d' = d := by omega
  obtain ⟨e2, ao2, cap2, -, rfl, hk2⟩ := hrd2.open
  obtain ⟨hl1, hl2⟩ := (lenC_iff c).1 hlen
  obtain ⟨k, hk⟩ : ∃ k, k = c.k := ⟨_, rfl⟩
  obtain ⟨t, ht⟩ : ∃ t, t = c.t := ⟨_, rfl⟩
  obtain ⟨n, hn⟩ : ∃ n, n = c.n := ⟨_, rfl⟩
  obtain ⟨l, hl⟩ : ∃ l, l = c.kids := ⟨_, rfl⟩
  rw [← hk, ← ht, ← hn, ← hl]
  rw [← hl] at hk1 hk2 hl1 hl2
  obtain ⟨m, hm⟩ : ∃ m, m = l.length := ⟨_, rfl⟩
  rw [← hm] at hl1 ⊢
  have hmI : (m : Int) ≤ 9223372036854775807 := Int.le_trans (Int.ofNat_le.2 hl1) (by decide +kernel)
  obtain ⟨W, hW⟩ : ∃ W, W = (w.alloc (.cells #[.int .i64 k, .int .i64 t, .int .i64 n, .slice ao m cap] 45)).alloc (.cells #[.int .i64 k, .int .i64 t, .int .i64 n, .slice ao2 m cap2] 45) := ⟨_, rfl⟩
  obtain ⟨cb, hcb⟩ : ∃ b, b = w.heap.size := ⟨_, rfl⟩
  obtain ⟨db, hdb⟩ : ∃ b, b = w.heap.size + 1 := ⟨_, rfl⟩
  have hB : Below w.heap.size w W := by rw [hW]; exact ((Below.refl _ w).alloc (Nat.le_refl _) _).alloc (by simp) _
  have g1 : W.heap[cb]? = some (.cells #[.int .i64 k, .int .i64 t, .int .i64 n, .slice ao m cap] 45 (0, 0)) := by
    rw [hW, hcb]; exact (Below.heap_alloc _ _ _ (by simp)).trans (World.alloc_heap_new _ _)
  have g2 : W.heap[db]? = some (.cells #[.int .i64 k, .int .i64 t, .int .i64 n, .slice ao2 m cap2] 45 (0, 0)) := by
    have h := World.alloc_heap_new (w.alloc (.cells #[.int .i64 k, .int .i64 t, .int .i64 n, .slice ao m cap] 45)) (.cells #[.int .i64 k, .int .i64 t, .int .i64 n, .slice ao2 m cap2] 45)
    rw [World.size_alloc, ← hdb] at h
    rw [hW]; exact h
  have a0 : W.cell? ⟨cb, 0, none⟩ = some (.int .i64 k) := by rw [World.cell?, g1]; rfl
  have a1 : W.cell? ⟨cb, 1, none⟩ = some (.int .i64 t) := by rw [World.cell?, g1]; rfl
  have a2 : W.cell? ⟨cb, 2, none⟩ = some (.int .i64 n) := by rw [World.cell?, g1]; rfl
  have a3 : W.cell? ⟨cb, 3, none⟩ = some (.slice ao m cap) := by rw [World.cell?, g1]; rfl
  have b0 : W.cell? ⟨db, 0, none⟩ = some (.int .i64 k) := by rw [World.cell?, g2]; rfl
  have b1 : W.cell? ⟨db, 1, none⟩ = some (.int .i64 t) := by rw [World.cell?, g2]; rfl
  have b2 : W.cell? ⟨db, 2, none⟩ = some (.int .i64 n) := by rw [World.cell?, g2]; rfl
  have b3 : W.cell? ⟨db, 3, none⟩ = some (.slice ao2 m cap2) := by rw [World.cell?, g2]; rfl
  have HB := Lib.hid hB
  have H1 := Lib.hid (RdCs.below hk1 hB)
  have H2 := Lib.hid (RdCs.below hk2 hB)
  have HCB := Lib.hid (And.intro (Array.getElem?_eq_some_iff.1 g1).1 (Array.getElem?_eq_some_iff.1 g2).1)
  have HM := Lib.hid (And.intro hm hl2)
  have IH := Lib.hid ih
  have HA := Lib.hid (And.intro a3 b3)
  clear g1 g2 hB hk1 hk2 hm hl2 ih hrd hrd2 hlen hk ht hn hl hd hl1
  go_enter Tryz.func28, Tryz.ntmps28
  go_upto_region 1 with fail
  rw [← hW, ← hdb, ← hcb]
  clear hW hcb hdb
  go_wp2_with fail
  go_loopw [5] (fun i wr => ∃ j : Nat, j ≤ m ∧ i = .int .i64 j ∧ Below W.heap.size W wr) (fun i _ => m - (Go.RowKit.intOf i).toNat)
  case atStart => exact ⟨0, by omega, rfl, Below.refl _ _⟩
  case round =>
    obtain ⟨j, hj, rfl, hb⟩ := hrel
    have HBW := Lib.hid hb
    clear a0 a1 a2 a3 b0 b1 b2 b3
    have a3 : wr.cell? ⟨cb, 3, none⟩ = some (.slice ao m cap) := (World.cell?_of_block (a := ⟨cb, 3, none⟩) (hb.block cb HCB.out.1)).trans HA.out.1
    have b3 : wr.cell? ⟨db, 3, none⟩ = some (.slice ao2 m cap2) := (World.cell?_of_block (a := ⟨db, 3, none⟩) (hb.block db HCB.out.2)).trans HA.out.2
    by_cases hlt : j < m
    · have hlt' : (j : Int) < m := by omega
      have hj0 : (0 : Int) ≤ (j : Int) := by omega
      have hjl : j < l.length := by rw [← HM.out.1]; exact hlt
      obtain ⟨kb, ko, vs, rfl, hkb, hrg, hrd⟩ := H1.out j hjl
      obtain ⟨kb2, ko2, vs2, rfl, hkb2, hrg2, hrd2⟩ := H2.out j hjl
      have hv4 : vs.length = 4 := by obtain ⟨x1, x2, x3⟩ := hrd.cells; rw [x3]; rfl
      have hv42 : vs2.length = 4 := by obtain ⟨x1, x2, x3⟩ := hrd2.cells; rw [x3]; rfl
      have hS : ∀ W', Below wr.heap.size wr W' → W'.cell? ⟨cb, 3, none⟩ = some (.slice (some ⟨kb, ko, none⟩) m cap) ∧ W'.cell? ⟨db, 3, none⟩ = some (.slice (some ⟨kb2, ko2, none⟩) m cap2) ∧
          (loadC (.pointer (some ⟨kb, ko + j * 4, none⟩))).run Tryz.prog W' = .ok (.agg vs.toArray) W' ∧ (loadC (.pointer (some ⟨kb2, ko2 + j * 4, none⟩))).run Tryz.prog W' = .ok (.agg vs2.toArray) W' := fun W' hb' => by
        have hsz := hb.size
        have hcl := HCB.out
        exact ⟨(World.cell?_of_block (a := ⟨cb, 3, none⟩) (hb'.block cb (by omega))).trans a3, (World.cell?_of_block (a := ⟨db, 3, none⟩) (hb'.block db (by omega))).trans b3,
          run_loadCG (rangeAt_keep (rangeAt_keep hrg (hb.block kb hkb)) (hb'.block kb (by omega))) hv4, run_loadCG (rangeAt_keep (rangeAt_keep hrg2 (hb.block kb2 hkb2)) (hb'.block kb2 (by omega))) hv42⟩
      have hcall := fun W' (hb' : Below wr.heap.size wr W') => IH.out _ l[j] _ _ W' ((RdC.below hb hrd).below hb') ((RdC.below hb hrd2).below hb') (HM.out.2 _ (List.getElem_mem hjl))
      have HS := Lib.hid hS
      have HC := Lib.hid hcall
      have BD := Lib.hid (bel_drewS wr)
      clear hkb hrg hrd hkb2 hrg2 hrd2 hv4 hv42 hS hcall hb hjl
      go_wp2_with fail
      first
        | go_region_held3 (fun W' => W'.cell? ⟨cb, 3, none⟩ = some (.slice (some ⟨kb, ko, none⟩) m cap) ∧ W'.cell? ⟨db, 3, none⟩ = some (.slice (some ⟨kb2, ko2, none⟩) m cap2) ∧ (loadC (.pointer (some ⟨kb, ko + j * 4, none⟩))).run Tryz.prog W' = .ok (.agg vs.toArray) W' ∧ (loadC (.pointer (some ⟨kb2, ko2 + j * 4, none⟩))).run Tryz.prog W' = .ok (.agg vs2.toArray) W')
            (first | exact HS.out _ B1.out | exact HS.out _ BD.out | fail)
            (first
              | (go_at_call 28; with_reducible refine (HC.out _ BD.out).mono ?_; rintro x w1 ⟨rfl, hb⟩; have B1 := Lib.hid (BD.out.trans (hb.mono BD.out.size)); clear hb)
              | fail)
        | fail
      all_goals go_wp2_with fail
      go_roundw
      case rel => exact ⟨j + 1, by omega, by go_num, HBW.out.trans (B1.out.mono HBW.out.size)⟩
      case measure => simp [Go.RowKit.intOf]; omega
    · obtain rfl : j = m := by omega
      have hge : ¬ (j : Int) < j := by omega
      clear hlt hj
      go_wp2_with fail
      exact bodyPost_ret (v := .bool true) (by simp [results, Tryz.results28, go_sem]) rfl ⟨rfl, HB.out.trans (HBW.out.mono HB.out.size)⟩
end Go.Proofs.YtcfcfijmfgnpfaaGreatDoor
end

section
namespace Go.Proofs.YtcfcfijmfgnpfaaGreatDoor
open Go.RowKit
set_option linter.unusedVariables false
set_option linter.unusedSimpArgs false

theorem ByL.lt {l : List Nat} (h : ByL l) : ∀ c ∈ l, c < 256 := h.1
theorem bytes_Equal (v u : Value) (a b : List Nat) (w : World) (ha : RdB w v a) (hb : RdB w u b) (a256 : ∀ x ∈ a, x < 256) (b256 : ∀ x ∈ b, x < 256) :
    Calls Tryz.prog 70 #[v, u] w fun x w' => x = .returned (.bool (decide (a = b))) ∧ Below w.heap.size w w' := by
  have h1 := run_str ha a256
  have h2 := run_str hb b256
  by_cases h : a = b
  · have hst : ((strN a).toList == (strN b).toList) = true := by rw [h]; simp
    rw [decide_eq_true h]
    clear h
    go_enter Tryz.func70, Tryz.ntmps70
    go_wp2_with fail
    go_ret
    exact ⟨by rfl, Below.refl _ _⟩
  · have hst : ((strN a).toList == (strN b).toList) = false := by rw [beq_eq_false_iff_ne]; exact fun e => h ((strN_eq a256 b256).1 e)
    rw [decide_eq_false h]
    clear h
    go_enter Tryz.func70, Tryz.ntmps70
    go_wp2_with fail
    go_ret
    exact ⟨by rfl, Below.refl _ _⟩
theorem results_cellT {P : Program} {fn : Func} {tmps : Array Value} {w : World} {a b : Nat} {t : TypeId} {ad : Addr} {v u : Value} (hf : fn.results = #[.cell a t, .tmp b]) (ha : tmps.getD a undef = .pointer (some ad)) (hu : tmps.getD b undef = u) (h : (loadVar t ad).run P w = .ok v w) : (results fn tmps).run P w = .ok (.tuple #[v, u]) w := by
  unfold results
  rw [hf]
  have ha' : tmps[a]?.getD undef = .pointer (some ad) := by simpa using ha
  have hu' : tmps[b]?.getD undef = u := by simpa using hu
  simp [Array.mapM_eq_mapM_toList, ha', hu', asAddr, Sem.run_bind, h, Result.andThen]
theorem run_lvC {w : World} {b : Nat} {y : C4} (h : w.heap[b]? = some (.cells (c4 y).toArray 45 (0, 0))) : (loadVar 45 ⟨b, 0, none⟩).run Tryz.prog w = .ok (.agg (c4 y).toArray) w := by
  have q := run_loadCG (rangeAt_whole h) rfl
  unfold loadC Instr.loadAt at q
  simpa [Instr.sureAddr] using q
theorem rc3 (v : Value) (l : List Nat) (c : Cl) (w : World) (hr : RdB w v l) (hby : ByL l) (hc : readC 3 l = c) : Calls Tryz.prog 69 #[v, .int .i64 3] w fun e w' => ∃ (a2 : Option Addr) (c2 : Nat), e = .returned (.agg #[.int .i64 c.k, .int .i64 c.t, .int .i64 c.n, .slice a2 c.kids.length c2]) ∧ RdZ (fun b => b < w.heap.size) w' 4 (.agg #[.int .i64 c.k, .int .i64 c.t, .int .i64 c.n, .slice a2 c.kids.length c2]) c ∧ Below w.heap.size w w' := by
  refine (code_readCall 3 (by decide) v l w hr hby).mono ?_
  rintro e w' ⟨u, rfl, hz, hb⟩
  rw [hc] at hz
  obtain ⟨a2, c2, rfl⟩ := hz.cells
  exact ⟨a2, c2, rfl, hz, hb⟩
set_option maxHeartbeats 8000000 in
set_option maxRecDepth 100000 in
theorem code_DecodeCallOk (v : Value) (l : List Nat) (c : Cl) (w : World) (hr : RdB w v l) (hby : ByL l) (hok : okC 3 c = true) (hl : l = layT c) :
    Calls Tryz.prog 52 #[v] w fun x w' => ∃ y : C4, x = .returned (.tuple #[.agg (c4 y).toArray, .int .i64 0]) ∧ RdZ (fun b => b < w.heap.size) w' 4 (.agg (c4 y).toArray) c ∧ Below w.heap.size w w' := by
  have hrc : readC 3 l = c := by rw [hl]; exact readC_layT 3 c (Nat.le_refl 3) hok
  obtain ⟨ao, cap, hv⟩ := hr.lenOf
  obtain ⟨m, hm⟩ : ∃ m, m = l.length := ⟨_, rfl⟩
  rw [← hm] at hv
  subst hv
  obtain ⟨W1, hW1⟩ : ∃ W1, W1 = w.alloc (.cells zero4 45) := ⟨_, rfl⟩
  obtain ⟨rs, hrs⟩ : ∃ b, b = w.heap.size := ⟨_, rfl⟩
  have hb1 : Below w.heap.size w W1 := by rw [hW1]; exact bel_alloc _ _
  have hat : W1.heap[rs]? = some (.cells zero4 45 (0, 0)) := by rw [hW1, hrs]; exact World.alloc_heap_new _ _
  have HW := Lib.hid (And.intro hW1 hrs)
  have H1 := Lib.hid (And.intro hb1 hat)
  have HR := Lib.hid hr
  have HBY := Lib.hid hby
  have HOK := Lib.hid hok
  have HLL := Lib.hid (And.intro hl hrc)
  clear hr hby hm hW1 hrs hb1 hat hok hl hrc
  obtain ⟨k, hk⟩ : ∃ k, k = c.k := ⟨_, rfl⟩
  obtain ⟨t, ht⟩ : ∃ t, t = c.t := ⟨_, rfl⟩
  obtain ⟨n, hn⟩ : ∃ n, n = c.n := ⟨_, rfl⟩
  obtain ⟨nk, hnk⟩ : ∃ n, n = c.kids.length := ⟨_, rfl⟩
  go_enter Tryz.func52, Tryz.ntmps52
  go_upto_region 1 with fail
  rw [← HW.out.1, ← HW.out.2]
  go_upto_region 2 with (first
    | (go_at_call 69; with_reducible refine (rc3 _ l c _ (HR.out.below H1.out.1) HBY.out HLL.out.2).mono ?_; rintro x w2 ⟨a2, c2, rfl, hz, hb⟩; have Z2 := Lib.hid hz; have B2 := Lib.hid hb; clear hz hb)
    | fail)
  rw [← hk, ← ht, ← hn, ← hnk] at Z2
  rw [← hk, ← ht, ← hn, ← hnk]
  clear hk ht hn hnk
  obtain ⟨eb, heb⟩ : ∃ b, b = w2.heap.size := ⟨_, rfl⟩
  obtain ⟨Wd, hWd⟩ : ∃ Wd, Wd = w2.alloc (.cells #[.int .i64 k, .int .i64 t, .int .i64 n, .slice a2 nk c2] 45) := ⟨_, rfl⟩
  have hatd : Wd.heap[eb]? = some (.cells #[.int .i64 k, .int .i64 t, .int .i64 n, .slice a2 nk c2] 45 (0, 0)) := by rw [hWd, heb]; exact World.alloc_heap_new _ _
  have hbd : Below w2.heap.size w2 Wd := by rw [hWd]; exact bel_alloc w2 _
  rw [← hWd, ← heb]
  have hb2 := B2.out
  have h1 := H1.out.1
  have hrl : rs < W1.heap.size := (Array.getElem?_eq_some_iff.1 H1.out.2).1
  have D1 := Lib.hid (show Below w.heap.size w Wd from (h1.trans (hb2.mono h1.size)).trans (hbd.mono (Nat.le_trans h1.size hb2.size)))
  have AT := Lib.hid hatd
  have RS := Lib.hid ((hbd.block rs (by have := hb2.size; omega)).trans ((hb2.block rs hrl).trans H1.out.2))
  have hZ : RdZ (fun b => b < W1.heap.size) Wd 4 (.agg #[.int .i64 k, .int .i64 t, .int .i64 n, .slice a2 nk c2]) c := RdZ.keep hbd.size (fun _ _ z => z) (fun x hx _ => hbd.block x hx) Z2.out
  have Z1 := Lib.hid hZ
  have EG := Lib.hid (enc_good hZ.toC HOK.out)
  have HRL := Lib.hid (And.intro hrl HW.out.2)
  have LT := Lib.hid (layT_lt c)
  clear hatd hbd hb2 h1 hrl hZ hWd heb B2 Z2
  go_wp2_with (first
    | (refine wpl_loadC _ rfl rfl rfl (rangeAt_whole A4.out) rfl ?_)
    | (refine wpl_loadC _ rfl rfl rfl (rangeAt_whole AT.out) rfl ?_)
    | (go_at_call 43; with_reducible refine EG.out.mono ?_; rintro x w3 ⟨u3, rfl, ho, hb⟩; have D3 := Lib.hid (D1.out.trans (hb.mono D1.out.size)); have A3 := Lib.hid ((hb.block eb (Array.getElem?_eq_some_iff.1 AT.out).1).trans AT.out); have R3 := Lib.hid ((hb.block rs (Array.getElem?_eq_some_iff.1 RS.out).1).trans RS.out); have Z3 := Lib.hid (RdZ.keep hb.size (fun _ _ z => z) (fun x hx _ => hb.block x hx) Z1.out); have O3 := Lib.hid ho.reads; clear ho hb)
    | (go_at_call 70; with_reducible refine (bytes_Equal _ _ _ l _ O3.out (HR.out.below D3.out) LT.out HBY.out.lt).mono ?_; rw [decide_eq_true HLL.out.1.symm]; rintro x w4 ⟨rfl, hb⟩; have D4 := Lib.hid (D3.out.trans (hb.mono D3.out.size)); have A4 := Lib.hid ((hb.block eb (Array.getElem?_eq_some_iff.1 A3.out).1).trans A3.out); have R4 := Lib.hid ((hb.block rs (Array.getElem?_eq_some_iff.1 R3.out).1).trans R3.out); have Z4 := Lib.hid (RdZ.keep hb.size (fun _ _ z => z) (fun x hx _ => hb.block x hx) Z3.out); clear hb)
    | (refine wpl_storeD (vs := #[.int .i64 k, .int .i64 t, .int .i64 n, .slice a2 nk c2]) _ _ rfl rfl rfl rfl R4.out rfl rfl (ones4D k t n _ _ _) ?_)
    | fail)
  have hfin := setRow_heap w4 _ _ #[.int .i64 k, .int .i64 t, .int .i64 n, .slice a2 nk c2] _ _ R4.out
  have ho : ∀ x, x ≠ rs → (w4.setRow rs #[.int .i64 k, .int .i64 t, .int .i64 n, .slice a2 nk c2]).heap[x]? = w4.heap[x]? := fun x hx => setRow_other _ _ _ _ hx
  have hs4 : (w4.setRow rs #[.int .i64 k, .int .i64 t, .int .i64 n, .slice a2 nk c2]).heap.size = w4.heap.size := by simp
  have hlv := run_lvC (y := (k, t, n, a2, nk, c2)) hfin
  have hq := HRL.out
  have hd4 := D4.out
  exact bodyPost_ret (v := .tuple #[.agg #[.int .i64 k, .int .i64 t, .int .i64 n, .slice a2 nk c2], .int .i64 0]) (results_cellT Tryz.results52 rfl rfl hlv) rfl
    ⟨(k, t, n, a2, nk, c2), rfl, RdZ.keep (by omega) (fun x _ hx => by have h1 : x < w.heap.size := hx; show x < W1.heap.size; omega) (fun x _ hx => ho x (fun e => hx (by show x < W1.heap.size; omega))) Z4.out, hd4.trans ⟨rfl, rfl, rfl, by omega, fun x hx => ho x (by omega)⟩⟩
end Go.Proofs.YtcfcfijmfgnpfaaGreatDoor
end

section
namespace Go.Proofs.YtcfcfijmfgnpfaaGreatDoor
open Go.ChangeShapes Go.WideShapes Go.ChangeAt Go.RowKit Go.Deep
set_option linter.unusedVariables false
set_option linter.unusedSimpArgs false

section
variable {H : Type} {enc : TypeId × Value → H} {P : Program} {w : World} {base : Nat} {spare : Nat → Bool} {held : Bool}

theorem weight_at : ∀ {ts : List TypeId} {ds : List (DataW H)}, (DataW.weightsEach P ts ds).all (fun x => decide (x ≤ reachBytes)) = true → ∀ {j : Nat} {t : TypeId} {d : DataW H}, ts[j]? = some t → ds[j]? = some d → ∀ x ∈ d.weights P t, x ≤ reachBytes
  | [], _, _, j, t, d, ht, _ => by simp at ht
  | _ :: _, [], _, j, t, d, _, hd => by simp at hd
  | t0 :: ts, d0 :: ds, h, j, t, d, ht, hd => by
    simp only [DataW.weightsEach, List.all_append, Bool.and_eq_true] at h
    cases j with
    | zero =>
      simp only [List.getElem?_cons_zero, Option.some.injEq] at ht hd
      subst ht; subst hd
      intro x hx
      exact of_decide_eq_true (List.all_eq_true.1 h.1 x hx)
    | succ j => exact weight_at h.2 (j := j) (by simpa using ht) (by simpa using hd)
theorem weight_all {e : TypeId} {x : Nat} {d : DataW H} (hx : x ∈ d.weights P e) : ∀ {l : List (DataW H)}, d ∈ l → x ∈ DataW.weightsAll P e l
  | d0 :: l, h => by
    simp only [DataW.weightsAll, List.mem_append]
    rcases List.mem_cons.1 h with rfl | h
    · exact .inl hx
    · exact .inr (weight_all hx h)
theorem weight_len {t e : TypeId} {elems sp : List (DataW H)} (ht : P.underlying t = some (.slice e)) (h : ∀ x ∈ (DataW.slice elems sp).weights P t, x ≤ reachBytes) : (elems.length + sp.length) * P.bytesOf e ≤ reachBytes ∧ ∀ d ∈ elems, ∀ x ∈ d.weights P e, x ≤ reachBytes := by
  simp only [DataW.weights, ht, List.mem_cons, List.mem_append] at h
  exact ⟨h _ (.inl rfl), fun d hd x hx => h x (.inr (.inl (weight_all hx hd)))⟩

/-- A row of bytes that comes in is no longer than memory. -/
theorem sized_B {t e : TypeId} {v : Value} {d : DataW H} {p : List MemPlace} {n : Nat} (ht : P.underlying t = some (.slice e)) (hc : P.cellsOf e = 1) (hb : P.bytesOf e = 1)
    (h : DataW.trod enc P w base spare held n t [v] = some (d, p)) (hw : ∀ x ∈ d.weights P t, x ≤ reachBytes) {ao : Option Addr} {len cap : Nat} (hv : v = .slice ao len cap) : len ≤ reachBytes := by
  rcases open_slice1 ht hc h with ⟨hcs, -⟩ | ⟨a, len', cap', m, n', V, D, Pl, hcs, hb', hl, hm, hmm, hx, -⟩
  · have : v = .slice none 0 0 := by simpa using hcs
    rw [this] at hv
    injection hv with h1 h2 h3
    omega
  · have hvv : v = .slice (some a) len' cap' := by simpa using hcs
    rw [hvv] at hv
    injection hv with h1 h2 h3
    subst h2
    simp only [Prod.mk.injEq] at hx
    rw [hx.1] at hw
    have := (weight_len ht hw).1
    rw [hb, Nat.mul_one] at this
    simp at this
    omega
theorem open_RdBz {t e : TypeId} {v : Value} {d : DataW H} {p : List MemPlace} {r : Reach} {b0 : Nat} (ht : P.underlying t = some (.slice e)) (he : P.underlying e = some (.int .u8)) (hc : P.cellsOf e = 1) (hb : P.bytesOf e = 1)
    (hv : Value.okWide P w r b0 t v) (h : DataW.Trod enc P w base (fun _ => true) held t v d p) (hw : ∀ x ∈ d.weights P t, x ≤ reachBytes) : ∃ l : List Nat, RdB w v l ∧ (∀ b ∈ l, b < 256) ∧ l.length ≤ reachBytes := by
  obtain ⟨l, h1, h2, -⟩ := open_RdB ht he hc hv h
  obtain ⟨fuel, hf⟩ := h
  rw [cells_slice ht hv] at hf
  obtain ⟨ao, cap, hvv⟩ := h1.lenOf
  exact ⟨l, h1, h2, sized_B ht hc hb hf hw hvv⟩
theorem open_RdBBz {t e q : TypeId} {v : Value} {d : DataW H} {p : List MemPlace} {r : Reach} {b0 : Nat} (ht : P.underlying t = some (.slice e)) (he : P.underlying e = some (.slice q)) (hq : P.underlying q = some (.int .u8)) (ce : P.cellsOf e = 1) (cq : P.cellsOf q = 1) (bq : P.bytesOf q = 1)
    (hv : Value.okWide P w r b0 t v) (h : DataW.Trod enc P w base (fun _ => true) held t v d p) (hw : ∀ x ∈ d.weights P t, x ≤ reachBytes) : ∃ l : List (List Nat), RdBB w v l ∧ (∀ x ∈ l, (∀ b ∈ x, b < 256) ∧ x.length ≤ reachBytes) ∧ l.length ≤ maxLen := by
  obtain ⟨fuel, hf⟩ := h
  rw [cells_slice ht hv] at hf
  rcases open_slice1 ht ce hf with ⟨hcs, -⟩ | ⟨a, len, cap, m, n, V, D, Pl, hcs, hb, hl, hm, hmm, hd, hx⟩
  · have : v = .slice none 0 0 := by simpa using hcs
    subst this
    exact ⟨[], .inl ⟨rfl, rfl⟩, by simp, by simp⟩
  · simp only [if_true] at hmm
    have hmm' := hmm.symm
    subst hmm'
    have hvv : v = .slice (some a) len cap := by simpa using hcs
    subst hvv
    simp only [Prod.mk.injEq] at hd
    rw [hd.1] at hw
    have hwe := (weight_len ht hw).2
    have each : ∀ i, i < cap → ∃ l : List Nat, RdB w (V i) l ∧ (∀ b ∈ l, b < 256) ∧ (i < len → l.length ≤ reachBytes) := by
      intro i hi
      have hsz : ∀ {ao : Option Addr} {n' c' : Nat}, V i = .slice ao n' c' → i < len → n' ≤ reachBytes := fun {ao n' c'} hV hil =>
        sized_B he cq bq (hx i hi).2 (hwe (D i) (List.mem_map.2 ⟨i, by simpa using hil, rfl⟩)) hV
      rcases open_RdIM0 he hq cq ⟨_, (hx i hi).2⟩ with h0 | ⟨a', len', cap', zs, h0, hl', hm', hz, hcell, hwz⟩
      · exact ⟨[], .inl ⟨h0, rfl⟩, by simp, by simp⟩
      · obtain ⟨l, h1, h2, h3⟩ := RdB_of hl' hm' hz hcell hwz
        exact ⟨l, by rw [h0]; exact h2, h3, fun hil => by rw [h1]; exact hsz h0 hil⟩
    obtain ⟨L, hL⟩ := choose_lt each
    have hlen : ((List.range len).map L).length = len := by simp
    refine ⟨(List.range len).map L, .inr ⟨a, cap, by rw [hlen], by rw [hlen]; exact hl, fun i hi => ?_⟩, fun x hx => ?_, by rw [hlen]; omega⟩
    · rw [hlen] at hi
      refine ⟨V i, (hx i (by omega)).1, ?_⟩
      have : ((List.range len).map L).getD i [] = L i := by simp [hi]
      rw [this]; exact (hL i (by omega)).1
    · simp only [List.mem_map, List.mem_range] at hx
      obtain ⟨i, hi, rfl⟩ := hx
      exact ⟨(hL i (by omega)).2.1, (hL i (by omega)).2.2 hi⟩
end
end Go.Proofs.YtcfcfijmfgnpfaaGreatDoor
end

section
namespace Go.Proofs.YtcfcfijmfgnpfaaGreatDoor
open Go.ChangeShapes Go.WideShapes Go.ChangeAt Go.RowKit
set_option linter.unusedVariables false
set_option linter.unusedSimpArgs false

def laid2 : List (String × DataW Unit) := [("althing/blake.beginning", Rows.laid_althing_blake_beginning), ("althing/blake.orders", Rows.laid_althing_blake_orders)]
theorem gBeg : Tryz.prog.globalNamed "althing/blake.beginning" = some 0 := by kernel_rfl
theorem gOrd : Tryz.prog.globalNamed "althing/blake.orders" = some 2 := by kernel_rfl
theorem tBeg : (Tryz.prog.globals[0]?).map (·.type) = some 140 := by kernel_rfl
theorem tOrd : (Tryz.prog.globals[2]?).map (·.type) = some 218 := by kernel_rfl
theorem begTab : (Rows.laid_althing_blake_beginning : DataW Unit) = Lib.tabData .u64 (beginL.map fun (n : Nat) => (n : Int)) := rfl
theorem ordTab : (Rows.laid_althing_blake_orders : DataW Unit) = .agg ((List.range 10).map fun i => Lib.tabData .u8 ((orderL i).map fun (n : Nat) => (n : Int))) := rfl
theorem order_len (i : Nat) : (orderL i).length = 16 := by
  unfold orderL
  split <;> rfl
theorem glob_of_laid {W : World} (h : laidMetH Tryz.prog laid2 W) : Glob W := by
  rw [MakeChecks.laidMetH_plain _ _ _ (by kernel_rfl)] at h
  obtain ⟨ps, ⟨g0, t0, cs0, f0, p0, q0, hg0, ht0, hv0, hd0, ⟨g1, t1, cs1, f1, p1, q1, hg1, ht1, hv1, hd1, hq1, hps1⟩, hps0⟩, hnd, hfz⟩ := h
  obtain rfl := Option.some.inj (gBeg.symm.trans hg0)
  obtain rfl := Option.some.inj (gOrd.symm.trans hg1)
  obtain rfl := Option.some.inj (tBeg.symm.trans ht0)
  obtain rfl := Option.some.inj (tOrd.symm.trans ht1)
  rw [begTab] at hd0
  have e0 := Lib.cells_of_tab Tryz.underlying140 Tryz.underlying139 (by kernel_rfl) (by kernel_rfl) hd0
  have hcs : cs0 = Ws beginL := by
    obtain ⟨l⟩ := cs0
    simp only at e0
    rw [e0]
    rfl
  subst hcs
  have hsz : (Ws beginL).size = 8 := rfl
  have hm0 : MemPlace.cell 0 0 ∈ ps := by
    rw [hps0, hsz]
    simp [MemPlace.row]
  obtain ⟨⟨c, t, hct⟩, -⟩ := hfz 0 0 hm0
  have hb0 : W.heap[0]? = some (.cells (Ws beginL) t (0, 0)) := by
    have h2 := hv0
    simp only [World.var?, gBeg, Option.bind_some, hct, Option.some.injEq] at h2
    rw [hct, h2]
  obtain ⟨xs, m, rfl, hx, hl, hn, hel⟩ := DataW.trod_array Tryz.underlying218 hd1
  have ce : Tryz.prog.cellsOf 217 = 16 := by kernel_rfl
  rw [ordTab] at hx
  simp only [Prod.mk.injEq, DataW.agg.injEq] at hx
  have hrow : ∀ i, i < 10 → (cs1.toList.drop (i * 16)).take 16 = (orderL i).map fun (n : Nat) => Value.int .u8 (n : Int) := by
    intro i hi
    have h1 := hel i hi
    rw [ce] at h1
    have hxi : xs[i]?.map (·.1) = some (Lib.tabData .u8 ((orderL i).map fun (n : Nat) => (n : Int))) := by
      rw [← List.getElem?_map, ← hx.1]
      simp [hi]
    obtain ⟨x, hx1, hx2⟩ := Option.map_eq_some_iff.1 hxi
    obtain ⟨y, z⟩ := x
    simp only at hx2
    subst hx2
    have := Lib.cells_of_tab Tryz.underlying217 Tryz.underlying5 (by kernel_rfl) (by kernel_rfl) (h1.trans hx1)
    rw [this]
    simp
  have hlt : 2 < W.heap.size := by
    have h2 := hv1
    simp only [World.var?, gOrd, Option.bind_some] at h2
    by_cases hh : 2 < W.heap.size
    · exact hh
    · rw [Array.getElem?_eq_none (by omega)] at h2
      cases h2
  refine ⟨hlt, ⟨t, hb0⟩, fun i hi j hj => ?_⟩
  rw [World.var?_cell gOrd hv1]
  have h3 := congrArg (fun l => l[j]?) (hrow i hi)
  simp only [List.getElem?_take, List.getElem?_drop, if_pos hj] at h3
  rw [← Array.getElem?_toList, h3]
  have := order_len i
  simp [gt, this, hj]
theorem laid_door (os : Os) (args : Array Value) : laidMetH Tryz.prog laid2 ((World.doorLaid Tryz.prog 400 os).forCall (fun _ _ => 0) ⟨#[], args, []⟩).memory :=
  laidMetH_of_parts3 (fuel := 8) (laidMet_of_run' 8 (by kernel_rfl) (by kernel_rfl)) (by kernel_rfl) (by kernel_rfl)
end Go.Proofs.YtcfcfijmfgnpfaaGreatDoor
end

section
namespace Go.Proofs.YtcfcfijmfgnpfaaGreatDoor
set_option linter.unusedVariables false
set_option linter.unusedSimpArgs false

section ext
variable {α : Type} {r : α → α → Prop}
theorem sorted_ext (irr : ∀ a, ¬ r a a) (tr : ∀ a b c, r a b → r b c → r a c) : ∀ {l m : List α}, l.Pairwise r → m.Pairwise r → (∀ x, x ∈ l ↔ x ∈ m) → l = m
  | [], [], _, _, _ => rfl
  | [], b :: m, _, _, h => by have := (h b).2 (by simp); simp at this
  | a :: l, [], _, _, h => by have := (h a).1 (by simp); simp at this
  | a :: l, b :: m, h1, h2, h => by
    have hp1 := List.pairwise_cons.1 h1
    have hp2 := List.pairwise_cons.1 h2
    have e : a = b := by
      rcases List.mem_cons.1 ((h a).1 (by simp)) with e | e
      · exact e
      · rcases List.mem_cons.1 ((h b).2 (by simp)) with e' | e'
        · exact e'.symm
        · exact absurd (tr _ _ _ (hp2.1 a e) (hp1.1 b e')) (irr b)
    subst e
    rw [sorted_ext irr tr hp1.2 hp2.2 (fun x => ?_)]
    have hx := h x
    constructor
    · intro hm
      rcases List.mem_cons.1 (hx.1 (List.mem_cons_of_mem _ hm)) with e | e
      · subst e; exact absurd (hp1.1 x hm) (irr x)
      · exact e
    · intro hm
      rcases List.mem_cons.1 (hx.2 (List.mem_cons_of_mem _ hm)) with e | e
      · subst e; exact absurd (hp2.1 x hm) (irr x)
      · exact e
end ext

/-- Sorted by number. -/
def SrtK {β : Type} (m : List (Int × β)) : Prop := m.Pairwise (fun x y => x.1 < y.1)
def lexlt (a b : Int × Int) : Prop := a.1 < b.1 ∨ (a.1 = b.1 ∧ a.2 < b.2)
instance : DecidableRel lexlt := fun a b => by unfold lexlt; infer_instance
/-- Sorted by both numbers. -/
def SrtC {β : Type} (m : List ((Int × Int) × β)) : Prop := m.Pairwise (fun x y => lexlt x.1 y.1)

section
variable {κ β : Type}
def ins (lt : κ → κ → Prop) [DecidableRel lt] (x : κ × β) : List (κ × β) → List (κ × β)
  | [] => [x]
  | y :: l => if lt x.1 y.1 then x :: y :: l else y :: ins lt x l
theorem mem_ins (lt : κ → κ → Prop) [DecidableRel lt] (x z : κ × β) : ∀ l, z ∈ ins lt x l ↔ z = x ∨ z ∈ l
  | [] => by simp [ins]
  | y :: l => by
    unfold ins
    split
    · simp
    · rw [List.mem_cons, mem_ins lt x z l, List.mem_cons]
      constructor
      · rintro (h | h | h)
        · exact .inr (.inl h)
        · exact .inl h
        · exact .inr (.inr h)
      · rintro (h | h | h)
        · exact .inr (.inl h)
        · exact .inl h
        · exact .inr (.inr h)
theorem length_ins (lt : κ → κ → Prop) [DecidableRel lt] (x : κ × β) : ∀ l, (ins lt x l).length = l.length + 1
  | [] => rfl
  | y :: l => by
    unfold ins
    split
    · rfl
    · simp [length_ins lt x l]
theorem srt_ins (lt : κ → κ → Prop) [DecidableRel lt] (tr : ∀ a b c, lt a b → lt b c → lt a c) (x : κ × β) : ∀ l : List (κ × β), l.Pairwise (fun a b => lt a.1 b.1) → (∀ y ∈ l, lt x.1 y.1 ∨ lt y.1 x.1) → (ins lt x l).Pairwise (fun a b => lt a.1 b.1)
  | [], _, _ => by simp [ins]
  | y :: l, h, ht => by
    have hp := List.pairwise_cons.1 h
    unfold ins
    split
    · rename_i hlt
      refine List.pairwise_cons.2 ⟨fun z hz => ?_, h⟩
      rcases List.mem_cons.1 hz with e | e
      · rw [e]; exact hlt
      · exact tr _ _ _ hlt (hp.1 z e)
    · rename_i hlt
      refine List.pairwise_cons.2 ⟨fun z hz => ?_, srt_ins lt tr x l hp.2 (fun z hz => ht z (List.mem_cons_of_mem _ hz))⟩
      rcases (mem_ins lt x z l).1 hz with e | e
      · rw [e]; exact (ht y (by simp)).resolve_left hlt
      · exact hp.1 z e
end

/-! one row -/
section
variable {β : Type}
def sget (m : List (Int × β)) (k : Int) : Option β := (m.find? (fun x => x.1 == k)).map (·.2)
def sdel (m : List (Int × β)) (k : Int) : List (Int × β) := m.filter (fun x => !(x.1 == k))
def sput (m : List (Int × β)) (k : Int) (v : β) : List (Int × β) := ins (fun a b : Int => a < b) (k, v) (sdel m k)
theorem mem_sdel {m : List (Int × β)} {k : Int} {x : Int × β} : x ∈ sdel m k ↔ x ∈ m ∧ x.1 ≠ k := by simp [sdel]
theorem mem_sput {m : List (Int × β)} {k : Int} {v : β} {x : Int × β} : x ∈ sput m k v ↔ x = (k, v) ∨ (x ∈ m ∧ x.1 ≠ k) := by rw [sput, mem_ins, mem_sdel]
theorem SrtK.del {m : List (Int × β)} (h : SrtK m) (k : Int) : SrtK (sdel m k) := List.Pairwise.filter _ h
theorem SrtK.put {m : List (Int × β)} (h : SrtK m) (k : Int) (v : β) : SrtK (sput m k v) := by
  refine srt_ins (fun a b : Int => a < b) (fun a b c h1 h2 => Int.lt_trans h1 h2) (k, v) _ (h.del k) (fun y hy => ?_)
  have := (mem_sdel.1 hy).2
  show k < y.1 ∨ y.1 < k
  omega
theorem SrtK.ext {m m' : List (Int × β)} (h : SrtK m) (h' : SrtK m') (hm : ∀ x, x ∈ m ↔ x ∈ m') : m = m' :=
  sorted_ext (r := fun x y : Int × β => x.1 < y.1) (fun a h => by omega) (fun a b c h1 h2 => by omega) h h' hm
theorem SrtK.one {m : List (Int × β)} (h : SrtK m) {x y : Int × β} (hx : x ∈ m) (hy : y ∈ m) (e : x.1 = y.1) : x = y := by
  induction m with
  | nil => simp at hx
  | cons a m ih =>
    have hp := List.pairwise_cons.1 h
    rcases List.mem_cons.1 hx with rfl | hx' <;> rcases List.mem_cons.1 hy with rfl | hy'
    · rfl
    · have := hp.1 y hy'; omega
    · have := hp.1 x hx'; omega
    · exact ih hp.2 hx' hy'
theorem sget_mem {m : List (Int × β)} {k : Int} {v : β} (h : sget m k = some v) : (k, v) ∈ m := by
  unfold sget at h
  obtain ⟨x, hx, e⟩ := Option.map_eq_some_iff.1 h
  have h1 := List.find?_some hx
  have h2 := List.mem_of_find?_eq_some hx
  simp at h1
  obtain ⟨a, b⟩ := x
  simp at h1 e
  subst h1 e
  exact h2
theorem sget_none {m : List (Int × β)} {k : Int} : sget m k = none ↔ ∀ v, (k, v) ∉ m := by
  unfold sget
  rw [Option.map_eq_none_iff, List.find?_eq_none]
  constructor
  · intro h v hm
    exact h _ hm (by simp)
  · rintro h ⟨a, b⟩ hm e
    simp at e
    subst e
    exact h b hm
theorem SrtK.get {m : List (Int × β)} (h : SrtK m) {k : Int} {v : β} : sget m k = some v ↔ (k, v) ∈ m := by
  refine ⟨sget_mem, fun hm => ?_⟩
  cases e : sget m k with
  | none => exact absurd hm (sget_none.1 e v)
  | some u =>
    have := h.one (sget_mem e) hm rfl
    simpa using this
theorem SrtK.get_put {m : List (Int × β)} (h : SrtK m) (k j : Int) (v : β) : sget (sput m k v) j = if j = k then some v else sget m j := by
  by_cases e : j = k
  · subst e; simp only [if_true]
    exact (h.put j v).get.2 (mem_sput.2 (.inl rfl))
  · simp only [e, if_false]
    cases e' : sget m j with
    | none => exact sget_none.2 (fun u hu => by
        rcases mem_sput.1 hu with h' | h'
        · simp at h'; exact e h'.1
        · exact sget_none.1 e' u h'.1)
    | some u => exact (h.put k v).get.2 (mem_sput.2 (.inr ⟨sget_mem e', e⟩))
theorem SrtK.get_del {m : List (Int × β)} (h : SrtK m) (k j : Int) : sget (sdel m k) j = if j = k then none else sget m j := by
  by_cases e : j = k
  · subst e; simp only [if_true]
    exact sget_none.2 (fun u hu => (mem_sdel.1 hu).2 rfl)
  · simp only [e, if_false]
    cases e' : sget m j with
    | none => exact sget_none.2 (fun u hu => sget_none.1 e' u (mem_sdel.1 hu).1)
    | some u => exact (h.del k).get.2 (mem_sdel.2 ⟨sget_mem e', e⟩)
theorem sdel_none {m : List (Int × β)} {k : Int} (h : sget m k = none) : sdel m k = m := by
  unfold sdel
  rw [List.filter_eq_self]
  rintro ⟨a, b⟩ hm
  simp
  rintro rfl
  exact sget_none.1 h b hm
theorem SrtK.length_del {m : List (Int × β)} (h : SrtK m) (k : Int) : (sdel m k).length + (if (sget m k).isSome then 1 else 0) = m.length := by
  induction m with
  | nil => rfl
  | cons x m ih =>
    have hp := List.pairwise_cons.1 h
    by_cases e : x.1 = k
    · have h1 : sdel m k = m := sdel_none (sget_none.2 (fun v hv => by have := hp.1 _ hv; simp at this; omega))
      have h2 : sdel (x :: m) k = m := by rw [← h1]; simp [sdel, e]
      have h3 : sget (x :: m) k = some x.2 := by simp [sget, e]
      rw [h2, h3]; rfl
    · have h2 : sdel (x :: m) k = x :: sdel m k := by simp [sdel, e]
      have h3 : sget (x :: m) k = sget m k := by simp [sget, e]
      rw [h2, h3, List.length_cons, List.length_cons, ← ih hp.2]
      omega
theorem SrtK.length_put {m : List (Int × β)} (h : SrtK m) (k : Int) (v : β) : (sput m k v).length = if (sget m k).isSome then m.length else m.length + 1 := by
  have := h.length_del k
  rw [sput, length_ins]
  split <;> simp_all <;> omega
end

/-! cells -/
section
variable {β : Type}
abbrev Cls (β : Type) := List ((Int × Int) × β)
def rowOf (M : Cls β) (a : Int) : List (Int × β) := M.filterMap (fun c => if c.1.1 = a then some (c.1.2, c.2) else none)
def colOf (M : Cls β) (b : Int) : List (Int × β) := M.filterMap (fun c => if c.1.2 = b then some (c.1.1, c.2) else none)
def cget (M : Cls β) (a b : Int) : Option β := sget (rowOf M a) b
def cdel (M : Cls β) (a b : Int) : Cls β := M.filter (fun x => !(x.1 == (a, b)))
def cput (M : Cls β) (a b : Int) (v : β) : Cls β := ins lexlt ((a, b), v) (cdel M a b)
theorem mem_rowOf {M : Cls β} {a : Int} {x : Int × β} : x ∈ rowOf M a ↔ ((a, x.1), x.2) ∈ M := by
  simp only [rowOf, List.mem_filterMap]
  constructor
  · rintro ⟨⟨⟨i, j⟩, v⟩, hm, h⟩
    simp at h
    obtain ⟨rfl, rfl⟩ := h
    exact hm
  · intro h
    exact ⟨_, h, by simp⟩
theorem mem_colOf {M : Cls β} {b : Int} {x : Int × β} : x ∈ colOf M b ↔ ((x.1, b), x.2) ∈ M := by
  simp only [colOf, List.mem_filterMap]
  constructor
  · rintro ⟨⟨⟨i, j⟩, v⟩, hm, h⟩
    simp at h
    obtain ⟨rfl, rfl⟩ := h
    exact hm
  · intro h
    exact ⟨_, h, by simp⟩
theorem mem_cdel {M : Cls β} {a b : Int} {x : (Int × Int) × β} : x ∈ cdel M a b ↔ x ∈ M ∧ x.1 ≠ (a, b) := by simp [cdel]
theorem mem_cput {M : Cls β} {a b : Int} {v : β} {x : (Int × Int) × β} : x ∈ cput M a b v ↔ x = ((a, b), v) ∨ (x ∈ M ∧ x.1 ≠ (a, b)) := by rw [cput, mem_ins, mem_cdel]
theorem lexlt_tr (a b c : Int × Int) (h : lexlt a b) (k : lexlt b c) : lexlt a c := by unfold lexlt at *; omega
theorem lexlt_ir (a : Int × Int) : ¬ lexlt a a := by unfold lexlt; omega
theorem lexlt_tot {a b : Int × Int} (h : b ≠ a) : lexlt a b ∨ lexlt b a := by
  obtain ⟨a1, a2⟩ := a
  obtain ⟨b1, b2⟩ := b
  simp [lexlt] at *
  omega
theorem SrtC.del {M : Cls β} (h : SrtC M) (a b : Int) : SrtC (cdel M a b) := List.Pairwise.filter _ h
theorem SrtC.put {M : Cls β} (h : SrtC M) (a b : Int) (v : β) : SrtC (cput M a b v) :=
  srt_ins _ lexlt_tr _ _ (h.del a b) (fun y hy => lexlt_tot (mem_cdel.1 hy).2)
theorem SrtC.ext {M M' : Cls β} (h : SrtC M) (h' : SrtC M') (hm : ∀ x, x ∈ M ↔ x ∈ M') : M = M' :=
  sorted_ext (r := fun x y : (Int × Int) × β => lexlt x.1 y.1) (fun a => lexlt_ir _) (fun a b c => lexlt_tr _ _ _) h h' hm
theorem SrtC.row {M : Cls β} (h : SrtC M) (a : Int) : SrtK (rowOf M a) := by
  refine List.Pairwise.filterMap _ ?_ h
  rintro ⟨⟨i, j⟩, v⟩ ⟨⟨i', j'⟩, v'⟩ hlt x hx y hy
  simp at hx hy
  obtain ⟨rfl, rfl⟩ := hx
  obtain ⟨rfl, rfl⟩ := hy
  simp [lexlt] at hlt
  exact hlt
theorem SrtC.col {M : Cls β} (h : SrtC M) (b : Int) : SrtK (colOf M b) := by
  refine List.Pairwise.filterMap _ ?_ h
  rintro ⟨⟨i, j⟩, v⟩ ⟨⟨i', j'⟩, v'⟩ hlt x hx y hy
  simp at hx hy
  obtain ⟨rfl, rfl⟩ := hx
  obtain ⟨rfl, rfl⟩ := hy
  simp [lexlt] at hlt
  exact hlt
theorem SrtC.row_put {M : Cls β} (h : SrtC M) (a b : Int) (v : β) (i : Int) : rowOf (cput M a b v) i = if i = a then sput (rowOf M a) b v else rowOf M i := by
  split
  · rename_i e; subst e
    refine ((h.put _ _ _).row _).ext ((h.row _).put _ _) ?_
    rintro ⟨j, u⟩
    rw [mem_rowOf, mem_cput, mem_sput, mem_rowOf]
    simp
  · rename_i e
    refine ((h.put _ _ _).row _).ext (h.row _) ?_
    rintro ⟨j, u⟩
    rw [mem_rowOf, mem_cput, mem_rowOf]
    simp [e]
theorem SrtC.col_put {M : Cls β} (h : SrtC M) (a b : Int) (v : β) (j : Int) : colOf (cput M a b v) j = if j = b then sput (colOf M b) a v else colOf M j := by
  split
  · rename_i e; subst e
    refine ((h.put _ _ _).col _).ext ((h.col _).put _ _) ?_
    rintro ⟨i, u⟩
    rw [mem_colOf, mem_cput, mem_sput, mem_colOf]
    simp
  · rename_i e
    refine ((h.put _ _ _).col _).ext (h.col _) ?_
    rintro ⟨i, u⟩
    rw [mem_colOf, mem_cput, mem_colOf]
    simp [e]
theorem SrtC.row_del {M : Cls β} (h : SrtC M) (a b : Int) (i : Int) : rowOf (cdel M a b) i = if i = a then sdel (rowOf M a) b else rowOf M i := by
  split
  · rename_i e; subst e
    refine ((h.del _ _).row _).ext ((h.row _).del _) ?_
    rintro ⟨j, u⟩
    rw [mem_rowOf, mem_cdel, mem_sdel, mem_rowOf]
    simp
  · rename_i e
    refine ((h.del _ _).row _).ext (h.row _) ?_
    rintro ⟨j, u⟩
    rw [mem_rowOf, mem_cdel, mem_rowOf]
    simp [e]
theorem SrtC.col_del {M : Cls β} (h : SrtC M) (a b : Int) (j : Int) : colOf (cdel M a b) j = if j = b then sdel (colOf M b) a else colOf M j := by
  split
  · rename_i e; subst e
    refine ((h.del _ _).col _).ext ((h.col _).del _) ?_
    rintro ⟨i, u⟩
    rw [mem_colOf, mem_cdel, mem_sdel, mem_colOf]
    simp
  · rename_i e
    refine ((h.del _ _).col _).ext (h.col _) ?_
    rintro ⟨i, u⟩
    rw [mem_colOf, mem_cdel, mem_colOf]
    simp [e]
theorem SrtC.get {M : Cls β} (h : SrtC M) {a b : Int} {v : β} : cget M a b = some v ↔ ((a, b), v) ∈ M := by
  rw [cget, (h.row a).get, mem_rowOf]
theorem SrtC.get_col {M : Cls β} (h : SrtC M) (a b : Int) : sget (colOf M b) a = cget M a b := by
  cases e : cget M a b with
  | some v => exact (h.col b).get.2 (mem_colOf.2 (h.get.1 e))
  | none => exact sget_none.2 (fun v hv => sget_none.1 e v (mem_rowOf.2 (mem_colOf.1 hv)))
theorem cdel_none {M : Cls β} {a b : Int} (h : cget M a b = none) : cdel M a b = M := by
  unfold cdel
  rw [List.filter_eq_self]
  rintro ⟨⟨i, j⟩, v⟩ hm
  simp
  rintro rfl rfl
  exact sget_none.1 h v (mem_rowOf.2 hm)
theorem SrtC.length_del {M : Cls β} (h : SrtC M) (a b : Int) : (cdel M a b).length + (if (cget M a b).isSome then 1 else 0) = M.length := by
  induction M with
  | nil => rfl
  | cons x M ih =>
    have hp := List.pairwise_cons.1 h
    obtain ⟨⟨i, j⟩, u⟩ := x
    by_cases e : (i, j) = (a, b)
    · have h0 : cget M a b = none := sget_none.2 (fun v hv => by
        have := hp.1 _ (mem_rowOf.1 hv)
        rw [e] at this
        exact lexlt_ir _ this)
      have h1 : cdel M a b = M := cdel_none h0
      have h2 : cdel (((i, j), u) :: M) a b = M := by rw [← h1]; simp [cdel, e]
      have h3 : cget (((i, j), u) :: M) a b = some u := h.get.2 (by rw [e]; simp)
      rw [h2, h3]; rfl
    · have h2 : cdel (((i, j), u) :: M) a b = ((i, j), u) :: cdel M a b := by
        unfold cdel
        rw [List.filter_cons_of_pos]
        simpa using e
      have h3 : cget (((i, j), u) :: M) a b = cget M a b := by
        by_cases e1 : i = a
        · subst e1
          have : j ≠ b := fun e2 => e (by rw [e2])
          simp [cget, rowOf, sget, this]
        · simp [cget, rowOf, e1]
      rw [h2, h3, List.length_cons, List.length_cons, ← ih hp.2]
      omega
theorem SrtC.length_put {M : Cls β} (h : SrtC M) (a b : Int) (v : β) : (cput M a b v).length = if (cget M a b).isSome then M.length else M.length + 1 := by
  have := h.length_del a b
  rw [cput, length_ins]
  split <;> simp_all <;> omega
theorem row_length (M : Cls β) (a : Int) : (rowOf M a).length ≤ M.length := List.length_filterMap_le _ _
theorem col_length (M : Cls β) (b : Int) : (colOf M b).length ≤ M.length := List.length_filterMap_le _ _
/-- All cells, row by row. -/
theorem SrtC.flat {M : Cls β} (h : SrtC M) {ks : List Int} (hk : ks.Pairwise (· < ·)) (hm : ∀ a, a ∈ ks ↔ rowOf M a ≠ []) : ks.flatMap (fun a => (rowOf M a).map (fun x => ((a, x.1), x.2))) = M := by
  refine SrtC.ext ?_ h ?_
  · unfold SrtC
    rw [List.pairwise_flatMap]
    refine ⟨fun a ha => List.pairwise_map.2 ((h.row a).imp (fun {x y} hxy => .inr ⟨rfl, hxy⟩)), hk.imp (fun {a b} hab x hx y hy => ?_)⟩
    obtain ⟨x', _, rfl⟩ := List.mem_map.1 hx
    obtain ⟨y', _, rfl⟩ := List.mem_map.1 hy
    exact .inl hab
  · rintro ⟨⟨i, j⟩, v⟩
    rw [List.mem_flatMap]
    constructor
    · rintro ⟨a, _, hx⟩
      obtain ⟨x', hx', e⟩ := List.mem_map.1 hx
      have := mem_rowOf.1 hx'
      simp at e
      obtain ⟨⟨rfl, rfl⟩, rfl⟩ := e
      exact this
    · intro hM
      have hr : (j, v) ∈ rowOf M i := mem_rowOf.2 hM
      exact ⟨i, (hm i).2 (List.ne_nil_of_mem hr), List.mem_map.2 ⟨_, hr, rfl⟩⟩
end
end Go.Proofs.YtcfcfijmfgnpfaaGreatDoor
end

section
namespace Go.Proofs.YtcfcfijmfgnpfaaGreatDoor
open Go.RowKit Go.Maps
set_option linter.unusedVariables false
set_option linter.unusedSimpArgs false

/-- How a map's elements are read. -/
structure Cod (β : Type) where
  enc : β → Value
  R : Value → Option (DataW Unit × List MemPlace)
  dat : β → DataW Unit
  hR : ∀ x, R (enc x) = some (dat x, [])
  inv : ∀ v z, R v = some z → ∃ x, v = enc x ∧ z = (dat x, [])
  inj : ∀ x y, dat x = dat y → x = y

def codI : Cod Int where
  enc := .int .i64
  R := fun v => match v with | .int .i64 a => some (.lit (.int .i64 a), []) | _ => none
  dat := fun a => .lit (.int .i64 a)
  hR := fun _ => rfl
  inv := fun v z h => by
    split at h
    · cases h; exact ⟨_, rfl, rfl⟩
    · cases h
  inj := fun x y h => by simpa using h
def codU : Cod Unit where
  enc := fun _ => .agg #[]
  R := unitElem
  dat := fun _ => .agg []
  hR := fun _ => unitElem_mk
  inv := fun v z h => by
    obtain ⟨rfl, h2⟩ := unitElem_inv h
    exact ⟨(), rfl, h2⟩
  inj := fun _ _ _ => rfl
def codS : Cod ByteArray where
  enc := .string
  R := fun v => match v with | .string s => some (.lit (.string s.data.toList), []) | _ => none
  dat := fun s => .lit (.string s.data.toList)
  hR := fun _ => rfl
  inv := fun v z h => by
    split at h
    · cases h; exact ⟨_, rfl, rfl⟩
    · cases h
  inj := fun x y h => by
    have h' : x.data.toList = y.data.toList := by simpa using h
    cases x; cases y
    simpa [Array.toList_inj] using h'
def codM : Cod (Option Nat) where
  enc := .map
  R := fun v => match v with | .map none => some (.nil, []) | .map (some b) => some (.lit (.int .i64 b), []) | _ => none
  dat := fun b => match b with | none => .nil | some b => .lit (.int .i64 b)
  hR := fun b => by cases b <;> rfl
  inv := fun v z h => by
    split at h
    · cases h; exact ⟨none, rfl, rfl⟩
    · cases h; exact ⟨some _, rfl, rfl⟩
    · cases h
  inj := fun x y h => by
    cases x <;> cases y <;> simp at h ⊢
    omega

theorem keyedI : Keyed Tryz.prog 3 := int_keyed Tryz.underlying3
theorem keyI {k : Int} (h : (Lit.int .i64 k).wf = true) : keyOf Tryz.prog 3 (.int .i64 k) = some (.int .i64 k) := keyOf_int_mk Tryz.underlying3 h

section
variable {β : Type} {c : Cod β} {b : Nat} {m : List (Int × β)} {w : World}

/-- Block b is a map that holds m. -/
structure MapAt (c : Cod β) (b : Nat) (m : List (Int × β)) (w : World) : Prop where
  srt : SrtK m
  own : ∃ n D, w.ownsMap Tryz.prog 3 c.R b n D ∧ (∀ k, Maps.has D (.int .i64 k) = (sget m k).isSome) ∧ ∀ k v, sget m k = some v → ∀ z, D.atKey (.int .i64 k) z = c.dat v

theorem MapAt.lt (h : MapAt c b m w) : b < w.heap.size := by obtain ⟨n, D, ho, _⟩ := h.own; exact ho.lt
theorem MapAt.kept {w' : World} {row : Option Nat} (h : MapAt c b m w) (hg : w.grownBy w' row) (hne : some b ≠ row) : MapAt c b m w' := by
  obtain ⟨n, D, ho, h1, h2⟩ := h.own
  exact ⟨h.srt, n, D, ho.kept hg hne, h1, h2⟩
theorem MapAt.block {w' : World} (h : MapAt c b m w) (hb : w'.heap[b]? = w.heap[b]?) : MapAt c b m w' := by
  obtain ⟨n, D, ⟨es, clock, hh, F, hs, hD⟩, h1, h2⟩ := h.own
  exact ⟨h.srt, n, D, ⟨es, clock, hb.trans hh, F, hs, hD⟩, h1, h2⟩
/-- How the map's block stands in the heap: it is a map. -/
theorem MapAt.isMap (h : MapAt c b m w) : ∃ es clock, w.heap[b]? = some (.map es clock) := by
  obtain ⟨n, D, ⟨es, clock, hh, _⟩, _⟩ := h.own
  exact ⟨es, clock, hh⟩
theorem MapAt.made (c : Cod β) (w : World) : MapAt c w.heap.size [] (w.alloc (.map #[] 0)) :=
  ⟨List.Pairwise.nil, 0, _, World.ownsMap_made _ _ _ _, fun k => by simp [Maps.has, sget], fun k v h => by simp [sget] at h⟩
/-- The keys, as they lie in the datum. -/
theorem MapAt.keys {n : Nat} {D : DataW Unit} (hs : SrtK m) (ho : w.ownsMap Tryz.prog 3 c.R b n D) (h1 : ∀ k, Maps.has D (.int .i64 k) = (sget m k).isSome) : (m.map (·.1)).Perm (intKeys D) := by
  have hc : CollectedI D (fun _ => false) (m.map (·.1)) := by
    refine ⟨?_, fun x => ?_⟩
    · refine (List.pairwise_map.2 (hs.imp (fun {a b} hab => ?_)))
      omega
    · rw [h1]
      simp only [List.mem_map, and_true]
      constructor
      · rintro ⟨y, hy, rfl⟩
        have : sget m y.1 = some y.2 := hs.get.2 hy
        simp [this]
      · intro h
        obtain ⟨v, hv⟩ := Option.isSome_iff_exists.1 h
        exact ⟨_, sget_mem hv, rfl⟩
  exact hc.perm ho keyedI Tryz.underlying3 (fun _ => rfl)
theorem MapAt.size {n : Nat} {D : DataW Unit} (hs : SrtK m) (ho : w.ownsMap Tryz.prog 3 c.R b n D) (h1 : ∀ k, Maps.has D (.int .i64 k) = (sget m k).isSome) : Maps.size D = m.length := by
  have h := (MapAt.keys hs ho h1).length_eq
  obtain ⟨es, clock, hb, F, hs', rfl⟩ := ho
  simpa [intKeys, Maps.size] using h.symm
theorem MapAt.wf (h : MapAt c b m w) {x : Int × β} (hx : x ∈ m) : (Lit.int .i64 x.1).wf = true := by
  obtain ⟨n, D, ho, h1, _⟩ := h.own
  exact intKeys_wf ho Tryz.underlying3 x.1 ((MapAt.keys h.srt ho h1).mem_iff.1 (List.mem_map_of_mem hx))
/-- What stands at a key. -/
theorem MapAt.atKey (h : MapAt c b m w) {e : TypeId} {z0 : β} {n : Nat} {D : DataW Unit} (h1 : ∀ k, Maps.has D (.int .i64 k) = (sget m k).isSome) (h2 : ∀ k v, sget m k = some v → ∀ z, D.atKey (.int .i64 k) z = c.dat v) (k : Int) : D.atKey (.int .i64 k) (c.dat z0) = c.dat ((sget m k).getD z0) := by
  cases e : sget m k with
  | some v => exact h2 k v e _
  | none =>
    refine atKey_of_not_has ?_ _
    rw [h1, e]; rfl
theorem MapAt.look {t e : TypeId} {z0 : β} (h : MapAt c b m w) (ht : Tryz.prog.underlying t = some (.map 3 e)) (hz : (zeroValue e).run Tryz.prog w = .ok (c.enc z0) w) {k : Int} (hk : (Lit.int .i64 k).wf = true) :
    (Instr.lookup t (.map (some b)) (.int .i64 k) false).run Tryz.prog w = .ok (c.enc ((sget m k).getD z0)) w := by
  obtain ⟨n, D, ho, h1, h2⟩ := h.own
  obtain ⟨v, ps, hr, hv⟩ := ho.lookup keyedI ht hz (c.hR z0) (keyI hk)
  rw [h.atKey (e := e) (n := n) h1 h2] at hv
  obtain ⟨x, rfl, hx⟩ := c.inv _ _ hv
  have := c.inj _ _ (congrArg Prod.fst hx)
  rw [hr, this]
theorem MapAt.look_ok {t e : TypeId} {z0 : β} (h : MapAt c b m w) (ht : Tryz.prog.underlying t = some (.map 3 e)) (hz : (zeroValue e).run Tryz.prog w = .ok (c.enc z0) w) {k : Int} (hk : (Lit.int .i64 k).wf = true) :
    (Instr.lookup t (.map (some b)) (.int .i64 k) true).run Tryz.prog w = .ok (.tuple #[c.enc ((sget m k).getD z0), .bool (sget m k).isSome]) w := by
  obtain ⟨n, D, ho, h1, h2⟩ := h.own
  obtain ⟨v, ps, hr, hv⟩ := ho.look_ok keyedI ht hz (c.hR z0) (keyI hk)
  rw [h.atKey (e := e) (n := n) h1 h2] at hv
  obtain ⟨x, rfl, hx⟩ := c.inv _ _ hv
  have := c.inj _ _ (congrArg Prod.fst hx)
  rw [hr, this, h1]
theorem MapAt.len {t e : TypeId} (h : MapAt c b m w) (ht : Tryz.prog.underlying t = some (.map 3 e)) (ty : TypeId) : (Builtin.len_ #[t] ty #[.map (some b)]).run Tryz.prog w = .ok (.int .i64 m.length) w := by
  obtain ⟨n, D, ho, h1, h2⟩ := h.own
  rw [ho.len ht, MapAt.size h.srt ho h1]
theorem MapAt.drop {t e : TypeId} (h : MapAt c b m w) (ht : Tryz.prog.underlying t = some (.map 3 e)) {k : Int} (hk : (Lit.int .i64 k).wf = true) (ty : TypeId) :
    ∃ w', (Builtin.delete_ #[t, 3] ty #[.map (some b), .int .i64 k]).run Tryz.prog w = .ok (.tuple #[]) w' ∧ MapAt c b (sdel m k) w' ∧ w.grownBy w' (some b) ∧ w'.heap.size = w.heap.size := by
  obtain ⟨n, D, ho, h1, h2⟩ := h.own
  obtain ⟨w', hr, ho', ht'⟩ := ho.drop keyedI ht (keyI hk) ty
  refine ⟨w', hr, ⟨h.srt.del k, n, _, ho', fun j => ?_, fun j v hj z => ?_⟩, ht'.grown, ?_⟩
  · rw [h.srt.get_del]
    by_cases e : j = k
    · subst e; simpa using has_del_same
    · rw [has_del_other (by simp [e]), h1]; simp [e]
  · rw [h.srt.get_del] at hj
    by_cases e : j = k
    · subst e; simp at hj
    · rw [atKey_del_other (by simp [e])]
      simp [e] at hj
      exact h2 j v hj z
  · obtain ⟨es, clock, es', clock', _, rfl⟩ := ht'
    simp [Go.ChangeMaps.setBlock]
theorem MapAt.store {t e : TypeId} (h : MapAt c b m w) (ht : Tryz.prog.underlying t = some (.map 3 e)) (hn : m.length < maxLen) {k : Int} (hk : (Lit.int .i64 k).wf = true) (v : β) :
    ∃ w', (Instr.mapUpdate t (.map (some b)) (.int .i64 k) (c.enc v)).run Tryz.prog w = .ok () w' ∧ MapAt c b (sput m k v) w' ∧ w.grownBy w' (some b) ∧ w'.heap.size = w.heap.size := by
  obtain ⟨n, D, ho, h1, h2⟩ := h.own
  have hsz := MapAt.size h.srt ho h1
  have hmap := ho.isMap
  have ho1 : w.ownsMap Tryz.prog 3 c.R b m.length D := by
    obtain ⟨es, clock, hb, F, hs, rfl⟩ := ho
    refine ⟨es, clock, hb, F, ?_, rfl⟩
    rw [← hsz]
    simp [Maps.size, length_sorted]
  obtain ⟨w', hr, ho', ht'⟩ := ho1.store keyedI ht hn (keyI hk) (c.hR v)
  refine ⟨w', hr, ⟨h.srt.put k v, _, _, ho', fun j => ?_, fun j u hj z => ?_⟩, ht'.grown, ?_⟩
  · rw [h.srt.get_put]
    by_cases e : j = k
    · subst e; simpa using has_put_same hmap (keyedI.key (keyI hk)) _
    · rw [has_put_other (by simp [e]), h1]; simp [e]
  · rw [h.srt.get_put] at hj
    by_cases e : j = k
    · subst e; simp at hj; subst hj
      exact atKey_put_same hmap (keyedI.key (keyI hk)) _ _
    · rw [atKey_put_other (by simp [e])]
      simp [e] at hj
      exact h2 j u hj z
  · obtain ⟨es, clock, es', clock', _, rfl⟩ := ht'
    simp [Go.ChangeMaps.setBlock]
end

/-- A nil map. -/
theorem nil_look {w : World} {t e : TypeId} {z : Value} (ht : Tryz.prog.underlying t = some (.map 3 e)) (hz : (zeroValue e).run Tryz.prog w = .ok z w) {k : Int} (hk : (Lit.int .i64 k).wf = true) (c : Bool) :
    (Instr.lookup t (.map none) (.int .i64 k) c).run Tryz.prog w = .ok (if c then .tuple #[z, .bool false] else z) w := Maps.look_nil c keyedI ht hz (keyI hk)
end Go.Proofs.YtcfcfijmfgnpfaaGreatDoor
end

section
namespace Go.Proofs.YtcfcfijmfgnpfaaGreatDoor
open Go.RowKit Go.Maps Go.WideMaps
set_option linter.unusedVariables false
set_option linter.unusedSimpArgs false

/-- A digest. -/
structure Dg where
  s : List Nat
  len : s.length = 32
  lt : ∀ x ∈ s, x < 256
deriving DecidableEq
theorem Dg.ext {a b : Dg} (h : a.s = b.s) : a = b := by cases a; cases b; simp at h; subst h; rfl
/-- Which bytes come first. -/
def lexN : List Nat → List Nat → Bool
  | [], [] => false
  | [], _ :: _ => true
  | _ :: _, [] => false
  | a :: l, b :: m => decide (a < b) || (decide (a = b) && lexN l m)
theorem lexN_irr : ∀ l, lexN l l = false
  | [] => rfl
  | a :: l => by simp [lexN, lexN_irr l]
theorem lexN_tr : ∀ {a b c : List Nat}, lexN a b = true → lexN b c = true → lexN a c = true
  | [], [], _, h, _ => by simp [lexN] at h
  | [], _ :: _, [], _, k => by simp [lexN] at k
  | [], _ :: _, _ :: _, _, _ => rfl
  | _ :: _, [], _, h, _ => by simp [lexN] at h
  | _ :: _, _ :: _, [], _, k => by simp [lexN] at k
  | a :: l, b :: m, c :: n, h, k => by
    simp only [lexN, Bool.or_eq_true, Bool.and_eq_true, decide_eq_true_eq] at h k ⊢
    rcases h with h | ⟨rfl, h⟩
    · rcases k with k | ⟨rfl, k⟩
      · exact .inl (by omega)
      · exact .inl h
    · rcases k with k | ⟨rfl, k⟩
      · exact .inl k
      · exact .inr ⟨rfl, lexN_tr h k⟩
theorem lexN_tot : ∀ {a b : List Nat}, a ≠ b → lexN a b = true ∨ lexN b a = true
  | [], [], h => absurd rfl h
  | [], _ :: _, _ => .inl rfl
  | _ :: _, [], _ => .inr rfl
  | a :: l, b :: m, h => by
    simp only [lexN, Bool.or_eq_true, Bool.and_eq_true, decide_eq_true_eq]
    by_cases e : a = b
    · subst e
      rcases lexN_tot (a := l) (b := m) (fun e => h (by rw [e])) with k | k
      · exact .inl (.inr ⟨rfl, k⟩)
      · exact .inr (.inr ⟨rfl, k⟩)
    · rcases Nat.lt_or_gt_of_ne e with k | k
      · exact .inl (.inl k)
      · exact .inr (.inl k)
def dlt (a b : Dg) : Prop := lexN a.s b.s = true
instance : DecidableRel dlt := fun a b => by unfold dlt; infer_instance
theorem dlt_irr (a : Dg) : ¬ dlt a a := by simp [dlt, lexN_irr]
theorem dlt_tr (a b c : Dg) (h : dlt a b) (k : dlt b c) : dlt a c := lexN_tr h k
theorem dlt_tot {a b : Dg} (h : a ≠ b) : dlt a b ∨ dlt b a := lexN_tot (fun e => h (Dg.ext e))

/-- Sorted by digest. -/
def SrtD {β : Type} (m : List (Dg × β)) : Prop := m.Pairwise (fun x y => dlt x.1 y.1)
section
variable {β : Type}
def dget (m : List (Dg × β)) (k : Dg) : Option β := (m.find? (fun x => decide (x.1 = k))).map (·.2)
def ddel (m : List (Dg × β)) (k : Dg) : List (Dg × β) := m.filter (fun x => !decide (x.1 = k))
def dput (m : List (Dg × β)) (k : Dg) (v : β) : List (Dg × β) := ins dlt (k, v) (ddel m k)
theorem mem_ddel {m : List (Dg × β)} {k : Dg} {x : Dg × β} : x ∈ ddel m k ↔ x ∈ m ∧ x.1 ≠ k := by simp [ddel]
theorem mem_dput {m : List (Dg × β)} {k : Dg} {v : β} {x : Dg × β} : x ∈ dput m k v ↔ x = (k, v) ∨ (x ∈ m ∧ x.1 ≠ k) := by rw [dput, mem_ins, mem_ddel]
theorem SrtD.del {m : List (Dg × β)} (h : SrtD m) (k : Dg) : SrtD (ddel m k) := List.Pairwise.filter _ h
theorem SrtD.put {m : List (Dg × β)} (h : SrtD m) (k : Dg) (v : β) : SrtD (dput m k v) :=
  srt_ins dlt dlt_tr (k, v) _ (h.del k) (fun y hy => dlt_tot (fun e => (mem_ddel.1 hy).2 e.symm))
theorem SrtD.ext {m m' : List (Dg × β)} (h : SrtD m) (h' : SrtD m') (hm : ∀ x, x ∈ m ↔ x ∈ m') : m = m' :=
  sorted_ext (r := fun x y : Dg × β => dlt x.1 y.1) (fun a => dlt_irr _) (fun a b c => dlt_tr _ _ _) h h' hm
theorem SrtD.one {m : List (Dg × β)} (h : SrtD m) {x y : Dg × β} (hx : x ∈ m) (hy : y ∈ m) (e : x.1 = y.1) : x = y := by
  induction m with
  | nil => simp at hx
  | cons a m ih =>
    have hp := List.pairwise_cons.1 h
    rcases List.mem_cons.1 hx with rfl | hx' <;> rcases List.mem_cons.1 hy with rfl | hy'
    · rfl
    · exact absurd (e ▸ hp.1 y hy') (dlt_irr _)
    · exact absurd (e ▸ hp.1 x hx') (dlt_irr _)
    · exact ih hp.2 hx' hy'
theorem dget_mem {m : List (Dg × β)} {k : Dg} {v : β} (h : dget m k = some v) : (k, v) ∈ m := by
  unfold dget at h
  obtain ⟨x, hx, e⟩ := Option.map_eq_some_iff.1 h
  have h1 := List.find?_some hx
  have h2 := List.mem_of_find?_eq_some hx
  simp at h1
  obtain ⟨a, b⟩ := x
  simp at h1 e
  subst h1 e
  exact h2
theorem dget_none {m : List (Dg × β)} {k : Dg} : dget m k = none ↔ ∀ v, (k, v) ∉ m := by
  unfold dget
  rw [Option.map_eq_none_iff, List.find?_eq_none]
  constructor
  · intro h v hm
    exact h _ hm (by simp)
  · rintro h ⟨a, b⟩ hm e
    simp at e
    subst e
    exact h b hm
theorem SrtD.get {m : List (Dg × β)} (h : SrtD m) {k : Dg} {v : β} : dget m k = some v ↔ (k, v) ∈ m := by
  refine ⟨dget_mem, fun hm => ?_⟩
  cases e : dget m k with
  | none => exact absurd hm (dget_none.1 e v)
  | some u =>
    have := h.one (dget_mem e) hm rfl
    simpa using this
theorem SrtD.get_put {m : List (Dg × β)} (h : SrtD m) (k j : Dg) (v : β) : dget (dput m k v) j = if j = k then some v else dget m j := by
  by_cases e : j = k
  · subst e; simp only [if_true]
    exact (h.put j v).get.2 (mem_dput.2 (.inl rfl))
  · simp only [e, if_false]
    cases e' : dget m j with
    | none => exact dget_none.2 (fun u hu => by
        rcases mem_dput.1 hu with h' | h'
        · simp at h'; exact e h'.1
        · exact dget_none.1 e' u h'.1)
    | some u => exact (h.put k v).get.2 (mem_dput.2 (.inr ⟨dget_mem e', e⟩))
theorem SrtD.get_del {m : List (Dg × β)} (h : SrtD m) (k j : Dg) : dget (ddel m k) j = if j = k then none else dget m j := by
  by_cases e : j = k
  · subst e; simp only [if_true]
    exact dget_none.2 (fun u hu => (mem_ddel.1 hu).2 rfl)
  · simp only [e, if_false]
    cases e' : dget m j with
    | none => exact dget_none.2 (fun u hu => dget_none.1 e' u (mem_ddel.1 hu).1)
    | some u => exact (h.del k).get.2 (mem_ddel.2 ⟨dget_mem e', e⟩)
theorem ddel_none {m : List (Dg × β)} {k : Dg} (h : dget m k = none) : ddel m k = m := by
  unfold ddel
  rw [List.filter_eq_self]
  rintro ⟨a, b⟩ hm
  simp
  rintro rfl
  exact dget_none.1 h b hm
theorem SrtD.length_del {m : List (Dg × β)} (h : SrtD m) (k : Dg) : (ddel m k).length + (if (dget m k).isSome then 1 else 0) = m.length := by
  induction m with
  | nil => rfl
  | cons x m ih =>
    have hp := List.pairwise_cons.1 h
    by_cases e : x.1 = k
    · have h1 : ddel m k = m := ddel_none (dget_none.2 (fun v hv => by have := hp.1 _ hv; rw [e] at this; exact dlt_irr _ this))
      have h2 : ddel (x :: m) k = m := by rw [← h1]; simp [ddel, e]
      have h3 : dget (x :: m) k = some x.2 := by simp [dget, e]
      rw [h2, h3]; rfl
    · have h2 : ddel (x :: m) k = x :: ddel m k := by simp [ddel, e]
      have h3 : dget (x :: m) k = dget m k := by simp [dget, e]
      rw [h2, h3, List.length_cons, List.length_cons, ← ih hp.2]
      omega
theorem SrtD.length_put {m : List (Dg × β)} (h : SrtD m) (k : Dg) (v : β) : (dput m k v).length = if (dget m k).isSome then m.length else m.length + 1 := by
  have := h.length_del k
  rw [dput, length_ins]
  split <;> simp_all <;> omega
end

/-! digests as keys -/
/-- A digest as a value, and as a key. -/
def dv (d : Dg) : Value := .agg (Bs d.s).toArray
def dlit (d : Dg) : Lit := .string (d.s.map UInt8.ofNat)
theorem map_ofNat_inj : ∀ {a b : List Nat}, (∀ x ∈ a, x < 256) → (∀ x ∈ b, x < 256) → a.map UInt8.ofNat = b.map UInt8.ofNat → a = b
  | [], [], _, _, _ => rfl
  | [], _ :: _, _, _, h => by simp at h
  | _ :: _, [], _, _, h => by simp at h
  | x :: a, y :: b, ha, hb, h => by
    simp only [List.map_cons, List.cons.injEq] at h
    have h1 : x = y := by
      have := congrArg UInt8.toNat h.1
      have hx := ha x (by simp)
      have hy := hb y (by simp)
      simp only [UInt8.toNat_ofNat'] at this
      omega
    rw [h1, map_ofNat_inj (fun z hz => ha z (List.mem_cons_of_mem _ hz)) (fun z hz => hb z (List.mem_cons_of_mem _ hz)) h.2]
theorem dlit_inj {a b : Dg} (h : dlit a = dlit b) : a = b := by
  simp only [dlit, Lit.string.injEq] at h
  exact Dg.ext (map_ofNat_inj a.lt b.lt h)
theorem Bs_inj : ∀ {a b : List Nat}, Bs a = Bs b → a = b
  | [], [], _ => rfl
  | [], _ :: _, h => by simp [Bs] at h
  | _ :: _, [], h => by simp [Bs] at h
  | x :: a, y :: b, h => by
    simp only [Bs, List.map_cons, List.cons.injEq, Value.int.injEq, true_and] at h
    have h1 : x = y := by omega
    rw [h1, Bs_inj (a := a) (b := b) h.2]
theorem dv_inj {a b : Dg} (h : dv a = dv b) : a = b := by
  simp only [dv, Value.agg.injEq] at h
  exact Dg.ext (Bs_inj (by simpa using congrArg Array.toList h))
theorem arrH : ArrKey Tryz.prog 41 5 32 := ⟨Tryz.underlying41, by kernel_rfl, by kernel_rfl, by kernel_rfl⟩
theorem lawH : KeyLaw Tryz.prog 41 := arrH.law
theorem keyedH : Keyed Tryz.prog 41 := Keyed.of_law lawH
theorem typesSz : ∃ m, Tryz.prog.types.size = m + 1 := by
  have h : decide (0 < Tryz.prog.types.size) = true := by kernel_rfl
  have h2 := of_decide_eq_true h
  exact ⟨Tryz.prog.types.size - 1, by omega⟩
theorem mapM_all {α β : Type} {f : α → Option β} {g : α → β} : ∀ {l : List α}, (∀ x ∈ l, f x = some (g x)) → l.mapM f = some (l.map g)
  | [], _ => rfl
  | a :: l, h => by
    rw [List.mapM_cons, h a (by simp), mapM_all (l := l) (fun x hx => h x (List.mem_cons_of_mem _ hx))]
    rfl
theorem mapM_each {α β : Type} {f : α → Option β} : ∀ {l : List α} {r : List β}, l.mapM f = some r → ∀ x ∈ l, ∃ y, f x = some y
  | [], _, _, x, hx => by simp at hx
  | a :: l, r, h, x, hx => by
    rw [List.mapM_cons] at h
    cases e : f a with
    | none => rw [e] at h; simp at h
    | some y =>
      rw [e] at h
      simp only [Option.pure_def, Option.bind_eq_bind, Option.bind_some] at h
      cases e2 : l.mapM f with
      | none => rw [e2] at h; simp at h
      | some q =>
        rcases List.mem_cons.1 hx with rfl | hx
        · exact ⟨y, e⟩
        · exact mapM_each e2 x hx
theorem u8_wf {x : Nat} (h : x < 256) : (Lit.int .u8 (x : Int)).wf = true := by
  simp [Lit.wf, IntKind.min, IntKind.max, IntKind.signed, IntKind.bits]; omega
theorem keyLits_u8 {m x : Nat} (h : x < 256) : Tryz.prog.keyLits (m + 1) 5 [.int .u8 (x : Int)] = some [.int .u8 (x : Int)] := by
  unfold Program.keyLits
  simp only [Tryz.underlying5]
  simp [u8_wf h]
theorem keyBytes_u8 : ∀ {l : List Nat}, (∀ x ∈ l, x < 256) → keyBytes (l.map fun x => Lit.int .u8 ((x : Nat) : Int)) = l.map UInt8.ofNat
  | [], _ => rfl
  | x :: l, h => by
    have h1 : Lit.keyBytes (.int .u8 (x : Int)) = [UInt8.ofNat x] := by
      have hx := h x (by simp)
      have e : ((x : Int) % 2 ^ IntKind.u8.bits).toNat = x := by
        show ((x : Int) % 2 ^ 8).toNat = x
        omega
      show bytesBE (IntKind.u8.bits / 8) ((x : Int) % 2 ^ IntKind.u8.bits).toNat = _
      rw [e]
      show bytesBE 1 x = _
      simp [bytesBE, bytesLE]
      rw [← UInt8.toNat_inj]
      simp
    have h2 := keyBytes_u8 (l := l) (fun z hz => h z (List.mem_cons_of_mem _ hz))
    unfold keyBytes at h2 ⊢
    rw [List.map_cons, List.flatMap_cons, h1, h2]
    rfl
theorem flat_ones {α β : Type} (f : α → β) : ∀ r : List α, (r.map fun i => [f i]).flatten = r.map f
  | [] => rfl
  | a :: r => by rw [List.map_cons, List.flatten_cons, flat_ones f r]; rfl
theorem keyD (d : Dg) : keyOf Tryz.prog 41 (dv d) = some (dlit d) := by
  have hkt := arrH.keyType typesSz
  obtain ⟨m, hm⟩ := typesSz
  have hl : (Bs d.s).length = 32 := by rw [Bs_length, d.len]
  unfold keyOf
  simp only [arrH.hu]
  rw [if_pos (by simp [hkt, dv, Value.formed, arrH.hu, arrH.size, hl]), hm]
  unfold Program.keyLits
  simp only [arrH.hu, Value.cells, dv]
  rw [if_pos (by rw [arrH.size]; simpa using hl)]
  rw [mapM_all (g := fun i => [Lit.int .u8 ((d.s.getD i 0 : Nat) : Int)]) (fun i hi => ?_)]
  · have e : ((List.range 32).map fun i => [Lit.int .u8 ((d.s.getD i 0 : Nat) : Int)]).flatten = d.s.map fun x => Lit.int .u8 ((x : Nat) : Int) := by
      have e1 : d.s = (List.range 32).map fun i => d.s.getD i 0 := by
        refine List.ext_getElem? (fun i => ?_)
        by_cases hi : i < 32
        · rw [List.getElem?_map, List.getElem?_range hi, Option.map_some, List.getD_eq_getElem?_getD, List.getElem?_eq_getElem (by rw [d.len]; exact hi)]; rfl
        · rw [List.getElem?_eq_none (by rw [d.len]; omega), List.getElem?_eq_none (by simp; omega)]
      conv => rhs; rw [e1]
      rw [List.map_map]
      exact flat_ones _ _
    simp only [Option.map_some, e, keyBytes_u8 d.lt]
    rfl
  · have hi' : i < 32 := List.mem_range.1 hi
    have hi2 : i < d.s.length := by rw [d.len]; exact hi'
    have e : ((Bs d.s).drop (i * Tryz.prog.cellsOf 5)).take (Tryz.prog.cellsOf 5) = [Value.int .u8 ((d.s.getD i 0 : Nat) : Int)] := by
      rw [arrH.one, Nat.mul_one, List.drop_eq_getElem_cons (by rw [hl]; exact hi'), List.take_succ_cons, List.take_zero]
      simp [Bs, List.getD_eq_getElem?_getD, hi2]
    have hz : d.s.getD i 0 < 256 := by
      rw [List.getD_eq_getElem?_getD, List.getElem?_eq_getElem hi2]
      exact d.lt _ (List.getElem_mem hi2)
    show Tryz.prog.keyLits (m + 1) 5 (((Bs d.s).drop (i * Tryz.prog.cellsOf 5)).take (Tryz.prog.cellsOf 5)) = _
    rw [e, keyLits_u8 hz]
theorem keyD_inv {v : Value} {kl : Lit} (h : keyOf Tryz.prog 41 v = some kl) : ∃ d, v = dv d ∧ kl = dlit d := by
  have h0 := h
  obtain ⟨m, hm⟩ := typesSz
  unfold keyOf at h
  simp only [arrH.hu] at h
  by_cases hc : (Tryz.prog.keyType 41 && v.formed Tryz.prog 41) = true
  · rw [if_pos hc, hm] at h
    rw [Bool.and_eq_true] at hc
    have hf := hc.2
    cases v <;> simp [Value.formed, arrH.hu, arrH.size] at hf
    rename_i xs
    obtain ⟨ls, hls, -⟩ := Option.map_eq_some_iff.1 h
    unfold Program.keyLits at hls
    simp only [arrH.hu, Value.cells] at hls
    rw [if_pos (by rw [arrH.size]; simpa using hf)] at hls
    obtain ⟨r, hr, -⟩ := Option.map_eq_some_iff.1 hls
    have each := mapM_each hr
    have hu8 : ∀ i (hi : i < xs.size), ∃ n : Nat, xs[i] = .int .u8 (n : Int) ∧ n < 256 := by
      intro i hi
      obtain ⟨y, hy⟩ := each i (List.mem_range.2 (by omega))
      have e : ((xs.toList).drop (i * Tryz.prog.cellsOf 5)).take (Tryz.prog.cellsOf 5) = [xs[i]] := by
        rw [arrH.one, Nat.mul_one, List.drop_eq_getElem_cons (by simpa using hi), List.take_succ_cons, List.take_zero]
        simp
      rw [e] at hy
      change Tryz.prog.keyLits (m + 1) 5 [xs[i]] = _ at hy
      unfold Program.keyLits at hy
      simp only [Tryz.underlying5] at hy
      cases hx : xs[i] <;> rw [hx] at hy <;> simp at hy
      rename_i q n
      obtain ⟨⟨rfl, hw⟩, -⟩ := hy
      have hn : 0 ≤ n ∧ n < 256 := by
        simp [Lit.wf, IntKind.min, IntKind.max, IntKind.signed, IntKind.bits] at hw
        omega
      exact ⟨n.toNat, by rw [Int.toNat_of_nonneg hn.1], by omega⟩
    let g : Value → Nat := fun v => match v with | .int _ n => n.toNat | _ => 0
    have hg : ∀ i (hi : i < xs.size), xs[i] = .int .u8 ((g xs[i] : Nat) : Int) ∧ g xs[i] < 256 := by
      intro i hi
      obtain ⟨n, e, hn⟩ := hu8 i hi
      rw [e]
      exact ⟨by simp [g], by simpa [g] using hn⟩
    have hd : ∃ d : Dg, Value.agg xs = dv d := by
      refine ⟨⟨xs.toList.map g, by simpa using hf, fun x hx => ?_⟩, ?_⟩
      · obtain ⟨v, hv, rfl⟩ := List.mem_map.1 hx
        obtain ⟨i, hi, rfl⟩ := List.mem_iff_getElem.1 hv
        exact (hg i (by simpa using hi)).2
      · refine congrArg Value.agg (Array.ext (by simp [Bs_length]) (fun i h1 h2 => ?_))
        simp only [Bs, List.map_map, List.getElem_toArray, List.getElem_map, Function.comp_apply, Array.getElem_toList]
        exact (hg i h1).1
    obtain ⟨d, e⟩ := hd
    refine ⟨d, e, ?_⟩
    rw [e, keyD] at h0
    exact (Option.some.inj h0).symm
  · rw [if_neg hc] at h
    cases h
end Go.Proofs.YtcfcfijmfgnpfaaGreatDoor
end
