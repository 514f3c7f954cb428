/-
  Joined texts.
-/
import Derived.Test.YtcfcfijmfgnpfaaGreatDoorChecked
import Derived.WalkKit
import Derived.WalkSpells
import Derived.WalkLawsBesides
import Derived.Lib.Hide
import Derived.Below
import Derived.IntWalk
import Derived.Laws.Bits64b
import Derived.StillTailTactics
import Derived.Deep.Quiet
import Derived.ChangeKeysEq
import Derived.Laws.Rows
import Derived.Laws.Tables
import Derived.Laws.ResultCell
import Derived.Deep.WholeRow
import Derived.Test.YtcfcfijmfgnpfaaGreatDoorMgc

section
namespace Go.Proofs.YtcfcfijmfgnpfaaGreatDoor
open Go.RowKit
set_option linter.unusedVariables false
set_option linter.unusedSimpArgs false

/-- What a batch's head must keep to. -/
def headOk (c : Cl) : Bool := c.k == 5 && c.t == 0 && c.n == 0 && decide (1 ≤ c.kids.length ∧ c.kids.length ≤ 4)
/-- May a call be, with so many batches within one another? -/
def okC : Nat → Cl → Bool
  | 0, c => decide (leafOk c.k c.t c.n c.kids.length)
  | dp + 1, c => decide (leafOk c.k c.t c.n c.kids.length) || (headOk c && c.kids.all (okC dp))
theorem leafOk_5 {t n : Int} {m : Nat} : ¬ leafOk 5 t n m := by unfold leafOk; omega
def IsC (dp : Nat) : Prop := ∀ (d : Nat) (c : Cl) (v : Value) (w : World), RdC w d v c → Calls Tryz.prog 81 #[v, .int .i64 dp] w fun e w' => e = .returned (.bool (okC dp c)) ∧ Below w.heap.size w w'
set_option maxRecDepth 100000 in
theorem code_isCall1 {dp : Nat} (hp : dp ≤ 100) (h : IsC dp) (d : Nat) (c : Cl) (v : Value) (w : World) (db : Nat) (hrd : RdC w d v c) (hc : w.cell? ⟨db, 0, none⟩ = some (.int .i64 ((dp : Int) + 1))) :
    Calls Tryz.prog 102 #[v, .pointer (some ⟨db, 0, none⟩)] w fun e w' => e = .returned (.bool (!okC dp c)) ∧ Below w.heap.size w w' := by
  have hlt := World.block_lt_of_cell? w _ hc
  obtain ⟨d', ao, cap, -, rfl, -⟩ := hrd.open
  obtain ⟨k, hk⟩ : ∃ k, k = c.k := ⟨_, rfl⟩
  obtain ⟨t, ht⟩ : ∃ t, t = c.t := ⟨_, rfl⟩
  obtain ⟨n, hn⟩ : ∃ n, n = c.n := ⟨_, rfl⟩
  obtain ⟨m, hm⟩ : ∃ m, m = c.kids.length := ⟨_, rfl⟩
  rw [← hk, ← ht, ← hn, ← hm] at hrd ⊢
  obtain ⟨W, hW⟩ : ∃ W, W = w.alloc (.cells #[.int .i64 k, .int .i64 t, .int .i64 n, .slice ao m cap] 45) := ⟨_, rfl⟩
  have hB : Below w.heap.size w W := by rw [hW]; exact (Below.refl _ w).alloc (Nat.le_refl _) _
  have hrg : W.rangeAt w.heap.size 0 [.int .i64 k, .int .i64 t, .int .i64 n, .slice ao m cap] := by rw [hW]; exact rangeAt_new _
  have hcW : W.cell? ⟨db, 0, none⟩ = some (.int .i64 ((dp : Int) + 1)) := (World.cell?_of_block (a := ⟨db, 0, none⟩) (hB.block db hlt)).trans hc
  have hcall := h d c _ W (RdC.below hB hrd)
  have hn1 : IntKind.i64.wrap ((dp : Int) + 1 - 1) = dp := by rw [IntWalk.i64_in _ (by omega)]; omega
  have HW := Lib.hid hW
  have HC := Lib.hid hcall
  have HB := Lib.hid hB
  have HRG := Lib.hid hrg
  clear hk ht hn hm hW hB hrg hcall h hrd hc hlt
  go_enter Tryz.func102, Tryz.ntmps102
  go_upto_region 1 with fail
  rw [← HW.out]
  go_wp2_with (first
    | (refine wpl_loadC _ rfl rfl rfl HRG.out rfl ?_)
    | (go_at_call 81; refine HC.out.mono ?_; rintro e w1 ⟨rfl, hb⟩; have H1 := Lib.hid (HB.out.trans (hb.mono HB.out.size)); clear hb)
    | fail)
  exact bodyPost_ret (v := .bool (!okC dp c)) (by simp [results, Tryz.results102, go_sem]) rfl ⟨rfl, H1.out⟩
theorem all_take {l : List Cl} {p : Cl → Bool} {j : Nat} (h : j < l.length) : (l.take (j + 1)).all p = ((l.take j).all p && p l[j]) := by
  rw [List.take_succ_eq_append_getElem h, List.all_append]; simp
theorem all_of_take {l : List Cl} {p : Cl → Bool} {j : Nat} (h : j < l.length) (hp : p l[j] = false) : l.all p = false := by
  rw [Bool.eq_false_iff]
  intro hall
  rw [List.all_eq_true] at hall
  rw [hall _ (List.getElem_mem h)] at hp
  cases hp
set_option maxRecDepth 100000 in
set_option maxHeartbeats 1000000 in
theorem slices_IndexC {dp : Nat} (hp : dp ≤ 100) (h : IsC dp) (d : Nat) (l : List Cl) (ao : Option Addr) (cap : Nat) (w : World) (db : Nat) (hl : l.length ≤ 100) (hrd : RdCs w d ao l) (hc : w.cell? ⟨db, 0, none⟩ = some (.int .i64 ((dp : Int) + 1))) :
    Calls Tryz.prog 118 #[.slice ao l.length cap, .func (.func 102) #[] #[.pointer (some ⟨db, 0, none⟩)]] w fun e w' => (∃ r : Int, e = .returned (.int .i64 r) ∧ decide (0 ≤ r) = !(l.all (okC dp))) ∧ Below w.heap.size w w' := by
  have hlt := World.block_lt_of_cell? w _ hc
  obtain ⟨m, hm⟩ : ∃ m, m = l.length := ⟨_, rfl⟩
  rw [← hm] at hl ⊢
  have HM := Lib.hid hm
  have HRD := Lib.hid hrd
  have HC := Lib.hid hc
  have HLT := Lib.hid hlt
  have HH := Lib.hid h
  clear hm hrd hc hlt h
  go_enter Tryz.func118, Tryz.ntmps118
  go_wp2_with fail
  go_loopw [5, 8] (fun p i wr => ∃ j : Nat, j ≤ m ∧ i = .int .i64 j ∧ (l.take j).all (okC dp) = true ∧ Below w.heap.size w wr) (fun _ i _ => m - (intOf i).toNat)
  case atStart => exact ⟨0, by omega, rfl, rfl, Below.refl _ _⟩
  case round =>
    obtain ⟨j, hj, rfl, hall, hb⟩ := hrel
    have HB := Lib.hid (And.intro hall hb)
    by_cases hlt : j < m
    · have hlt' : (j : Int) < m := by omega
      have hjl : j < l.length := by rw [← HM.out]; exact hlt
      obtain ⟨kb, ko, vs, rfl, hkb, hrg, hrd⟩ := HRD.out j hjl
      have hrg2 : wr.rangeAt kb (ko + j * 4) vs := rangeAt_keep hrg (hb.block kb hkb)
      have hrd2 : RdC wr d (.agg vs.toArray) l[j] := RdC.below hb hrd
      have hat := all_take (p := okC dp) hjl
      have hof := all_of_take (p := okC dp) hjl
      have hc2 : wr.cell? ⟨db, 0, none⟩ = some (.int .i64 ((dp : Int) + 1)) := (World.cell?_of_block (a := ⟨db, 0, none⟩) (hb.block db HLT.out)).trans HC.out
      have hcall := code_isCall1 hp HH.out d l[j] _ wr db hrd2 hc2
      obtain ⟨a4, c4, e4⟩ := hrd2.cells
      obtain ⟨c1, c2, c3, c5, e5⟩ : ∃ c1 c2 c3 c5, vs = [.int .i64 c1, .int .i64 c2, .int .i64 c3, .slice a4 c5 c4] := ⟨_, _, _, _, e4⟩
      clear e4
      subst e5
      obtain ⟨q, hq⟩ : ∃ q, q = okC dp l[j] := ⟨_, rfl⟩
      rw [← hq] at hcall hat hof
      have HCA := Lib.hid hcall
      have HRG := Lib.hid hrg2
      have HA := Lib.hid hat
      have HO := Lib.hid hof
      clear hkb hrg hrd hrg2 hrd2 hat hof hc2 hcall hq hall hb hjl
      cases q
      · go_wp2_with (first
          | (refine wpl_loadC _ rfl rfl rfl HRG.out rfl ?_)
          | (go_at_call 102; refine HCA.out.mono ?_; rintro e w1 ⟨rfl, hb⟩; have H1 := Lib.hid (HB.out.2.trans (hb.mono HB.out.2.size)); clear hb)
          | fail)
        exact bodyPost_ret (v := .int .i64 j) (by simp [results, Tryz.results118, go_sem]) rfl ⟨⟨j, rfl, by rw [HO.out trivial]; simp⟩, H1.out⟩
      · go_wp2_with (first
          | (refine wpl_loadC _ rfl rfl rfl HRG.out rfl ?_)
          | (go_at_call 102; refine HCA.out.mono ?_; rintro e w1 ⟨rfl, hb⟩; have H1 := Lib.hid (HB.out.2.trans (hb.mono HB.out.2.size)); clear hb)
          | fail)
        go_roundw
        case rel => exact ⟨j + 1, by omega, by go_num, by rw [HA.out, HB.out.1]; rfl, H1.out⟩
        case measure => simp [intOf]; omega
    · obtain rfl : j = m := by omega
      have hge : ¬ (j : Int) < j := by omega
      have htk : l.take j = l := List.take_of_length_le (by rw [← HM.out]; exact Nat.le_refl _)
      rw [htk] at hall
      have HA := Lib.hid hall
      clear hlt htk hj hall hb
      go_wp2_with fail
      exact bodyPost_ret (v := .int .i64 (-1)) (by simp [results, Tryz.results118, go_sem]) rfl ⟨⟨-1, rfl, by rw [HA.out]; rfl⟩, HB.out.2⟩
set_option maxRecDepth 100000 in
theorem slices_ContainsC {dp : Nat} (hp : dp ≤ 100) (h : IsC dp) (d : Nat) (l : List Cl) (ao : Option Addr) (m cap : Nat) (w : World) (db : Nat) (hm : m = l.length) (hl : m ≤ 100) (hrd : RdCs w d ao l) (hc : w.cell? ⟨db, 0, none⟩ = some (.int .i64 ((dp : Int) + 1))) :
    Calls Tryz.prog 101 #[.slice ao m cap, .func (.func 102) #[] #[.pointer (some ⟨db, 0, none⟩)]] w fun e w' => e = .returned (.bool (!(l.all (okC dp)))) ∧ Below w.heap.size w w' := by
  subst hm
  have HC := Lib.hid (slices_IndexC hp h d l ao cap w db hl hrd hc)
  clear hrd hc h
  go_enter Tryz.func101, Tryz.ntmps101
  go_wp2_with (first
    | (go_at_call 118; refine HC.out.mono ?_; rintro e w1 ⟨⟨r, rfl, hr⟩, hb⟩; have H1 := Lib.hid (And.intro hr hb); clear hr hb)
    | fail)
  exact bodyPost_ret (v := .bool (decide (0 ≤ r))) (by simp [results, Tryz.results101, go_sem]) rfl ⟨by rw [H1.out.1], H1.out.2⟩
theorem okC_5 {dp : Nat} {c : Cl} (h : c.k = 5) : okC dp c = (match dp with | 0 => false | dp + 1 => headOk c && c.kids.all (okC dp)) := by
  cases dp with
  | zero => simp [okC, h, leafOk_5]
  | succ dp => simp [okC, h, leafOk_5]
theorem okC_n5 {dp : Nat} {c : Cl} (h : c.k ≠ 5) : okC dp c = decide (leafOk c.k c.t c.n c.kids.length) := by
  cases dp with
  | zero => rfl
  | succ dp => simp [okC, headOk, h]
set_option maxRecDepth 100000 in
set_option maxHeartbeats 4000000 in
theorem code_isCall5 (t n dp : Int) (ao : Option Addr) (m cap : Nat) (allb : Bool) (w : World)
    (hC : 0 < dp → m ≤ 4 → ∀ W db, Below w.heap.size w W → W.cell? ⟨db, 0, none⟩ = some (.int .i64 dp) → Calls Tryz.prog 101 #[.slice ao m cap, .func (.func 102) #[] #[.pointer (some ⟨db, 0, none⟩)]] W fun e w' => e = .returned (.bool (!allb)) ∧ Below W.heap.size W w') :
    Calls Tryz.prog 81 #[.agg #[.int .i64 5, .int .i64 t, .int .i64 n, .slice ao m cap], .int .i64 dp] w fun e w' => e = .returned (.bool (t == 0 && n == 0 && decide (1 ≤ m ∧ m ≤ 4) && decide (0 < dp) && allb)) ∧ Below w.heap.size w w' := by
  obtain ⟨r, hr⟩ : ∃ r, r = (t == 0 && n == 0 && decide (1 ≤ m ∧ m ≤ 4) && decide (0 < dp) && allb) := ⟨_, rfl⟩
  rw [← hr]
  have HR := Lib.hid hr
  clear hr
  obtain ⟨W, hW⟩ : ∃ W, W = (w.alloc (.cells #[.int .i64 5, .int .i64 t, .int .i64 n, .slice ao m cap] 45)).alloc (.cells #[.int .i64 dp] 3) := ⟨_, rfl⟩
  have hB : Below w.heap.size w W := by rw [hW]; exact ((Below.refl _ w).alloc (Nat.le_refl _) _).alloc (by simp) _
  have h1 := World.alloc_heap_new w (.cells #[.int .i64 5, .int .i64 t, .int .i64 n, .slice ao m cap] 45)
  have g1 : W.heap[w.heap.size]? = some (.cells #[.int .i64 5, .int .i64 t, .int .i64 n, .slice ao m cap] 45 (0, 0)) := by rw [hW]; exact (Below.heap_alloc _ _ _ (by simp)).trans h1
  obtain ⟨cb, hcb⟩ : ∃ cb, cb = w.heap.size := ⟨_, rfl⟩
  obtain ⟨db, hdb⟩ : ∃ db, db = cb + 1 := ⟨_, rfl⟩
  have g2 : W.heap[db]? = some (.cells #[.int .i64 dp] 3 (0, 0)) := by
    have h2 := World.alloc_heap_new (w.alloc (.cells #[.int .i64 5, .int .i64 t, .int .i64 n, .slice ao m cap] 45)) (.cells #[.int .i64 dp] 3)
    rw [World.size_alloc] at h2
    rw [hW, hdb, hcb]; exact h2
  rw [← hcb] at g1
  have a0 : W.cell? ⟨cb, 0, none⟩ = some (.int .i64 5) := by rw [World.cell?, g1]; rfl
  have a1 : W.cell? ⟨cb, 1, none⟩ = some (.int .i64 t) := by rw [World.cell?, g1]; rfl
  have a2 : W.cell? ⟨cb, 2, none⟩ = some (.int .i64 n) := by rw [World.cell?, g1]; rfl
  have a3 : W.cell? ⟨cb, 3, none⟩ = some (.slice ao m cap) := by rw [World.cell?, g1]; rfl
  have b0 : W.cell? ⟨db, 0, none⟩ = some (.int .i64 dp) := by rw [World.cell?, g2]; rfl
  have HB := Lib.hid hB
  have HC := Lib.hid hC
  have HB0 := Lib.hid b0
  clear h1 g1 g2 hB hC
  go_enter Tryz.func81, Tryz.ntmps81
  go_upto_region 1 with fail
  rw [← hW, ← hcb, ← hdb]
  clear hW hcb hdb
  by_cases q1 : t = 0
  · have f1 : (t == 0) = true := by simp [q1]
    clear q1
    by_cases q2 : n = 0
    · have f2 : (n == 0) = true := by simp [q2]
      clear q2
      by_cases q3 : 1 ≤ m ∧ m ≤ 4
      · have f3 : decide ((1 : Int) ≤ (m : Int) ∧ (m : Int) ≤ 4) = true := decide_eq_true (by omega)
        have G3 := Lib.hid (show decide (1 ≤ m ∧ m ≤ 4) = true from decide_eq_true q3)
        have Q3 := Lib.hid q3
        clear q3
        by_cases q4 : 0 < dp
        · have f4 : decide (0 < dp) = true := decide_eq_true q4
          have HCC := Lib.hid (HC.out q4 Q3.out.2 W db HB.out HB0.out)
          clear q4
          go_wp2_with (first
            | (go_at_call 57; refine (bound_Within _ _ _ _).mono ?_; rintro e w' ⟨rfl, rfl⟩)
            | (go_at_call 101; refine HCC.out.mono ?_; rintro e w1 ⟨rfl, hb⟩; have H1 := Lib.hid (HB.out.trans (hb.mono HB.out.size)); clear hb)
            | fail)
          exact bodyPost_ret (v := .bool allb) (by simp [results, Tryz.results81, go_sem]) rfl ⟨by rw [HR.out, f1, f2, G3.out, f4]; simp, H1.out⟩
        · have f4 : decide (0 < dp) = false := decide_eq_false q4
          clear q4
          go_wp2_with (first
            | (go_at_call 57; refine (bound_Within _ _ _ _).mono ?_; rintro e w' ⟨rfl, rfl⟩)
            | fail)
          exact bodyPost_ret (v := .bool false) (by simp [results, Tryz.results81, go_sem]) rfl ⟨by rw [HR.out, f4]; simp, HB.out⟩
      · have f3 : decide ((1 : Int) ≤ (m : Int) ∧ (m : Int) ≤ 4) = false := decide_eq_false (by omega)
        have G3 := Lib.hid (show decide (1 ≤ m ∧ m ≤ 4) = false from decide_eq_false q3)
        clear q3
        go_wp2_with (first
          | (go_at_call 57; refine (bound_Within _ _ _ _).mono ?_; rintro e w' ⟨rfl, rfl⟩)
          | fail)
        exact bodyPost_ret (v := .bool false) (by simp [results, Tryz.results81, go_sem]) rfl ⟨by rw [HR.out, G3.out]; simp, HB.out⟩
    · have f2 : (n == 0) = false := by simp [q2]
      clear q2
      go_wp2_with fail
      exact bodyPost_ret (v := .bool false) (by simp [results, Tryz.results81, go_sem]) rfl ⟨by rw [HR.out, f2]; simp, HB.out⟩
  · have f1 : (t == 0) = false := by simp [q1]
    clear q1
    go_wp2_with fail
    exact bodyPost_ret (v := .bool false) (by simp [results, Tryz.results81, go_sem]) rfl ⟨by rw [HR.out, f1]; simp, HB.out⟩
theorem code_isCall : ∀ dp : Nat, dp ≤ 100 → IsC dp := by
  intro dp
  induction dp with
  | zero =>
    intro _ d c v w hrd
    obtain ⟨d', ao, cap, -, rfl, hkids⟩ := hrd.open
    by_cases h5 : c.k = 5
    · rw [okC_5 h5, h5]
      refine (code_isCall5 c.t c.n 0 ao c.kids.length cap true w (fun h => absurd h (by decide))).mono ?_
      rintro e w' ⟨he, hb⟩
      exact ⟨by rw [he]; simp, hb⟩
    · rw [okC_n5 h5]
      exact code_isCall0 c.k c.t c.n _ ao c.kids.length cap w h5
  | succ dp ih =>
    intro hp d c v w hrd
    obtain ⟨d', ao, cap, -, rfl, hkids⟩ := hrd.open
    by_cases h5 : c.k = 5
    · rw [okC_5 h5, h5]
      refine (code_isCall5 c.t c.n ((dp + 1 : Nat) : Int) ao c.kids.length cap (c.kids.all (okC dp)) w (fun h0 hm W db hb hc => ?_)).mono ?_
      · exact slices_ContainsC (by omega) (ih (by omega)) d' c.kids ao _ cap W db rfl (by omega) (RdCs.below hkids hb) (by rw [hc]; norm_cast)
      · rintro e w' ⟨he, hb⟩
        refine ⟨?_, hb⟩
        rw [he]
        have h0 : decide ((0 : Int) < ((dp + 1 : Nat) : Int)) = true := decide_eq_true (by omega)
        rw [h0]
        simp [headOk, h5]
    · rw [okC_n5 h5]
      exact code_isCall0 c.k c.t c.n _ ao c.kids.length cap w h5
end Go.Proofs.YtcfcfijmfgnpfaaGreatDoor
end

section
namespace Go.Proofs.YtcfcfijmfgnpfaaGreatDoor
open Go.RowKit
set_option linter.unusedVariables false
set_option linter.unusedSimpArgs false

def bnd : Nat → Nat
  | 0 => 36
  | d + 1 => 72 + 4 * bnd d
theorem leaf_kids {c : Cl} (h : leafOk c.k c.t c.n c.kids.length) : c.kids = [] := by
  unfold leafOk at h
  exact List.eq_nil_of_length_eq_zero (by omega)
theorem bnd_lo : ∀ d, 36 ≤ bnd d
  | 0 => Nat.le_refl _
  | d + 1 => by rw [bnd]; omega
theorem okC_len : ∀ (dp : Nat) (c : Cl), okC dp c = true → (layT c).length ≤ bnd dp := by
  intro dp
  induction dp with
  | zero =>
    intro c h
    have hk := leaf_kids (of_decide_eq_true h)
    rw [layT_eq, hk]
    have := numsL_length [c.k, c.t, c.n, ([] : List Cl).length]
    rw [List.length_append]
    simp only [laysT, List.length_nil, List.length_cons] at this ⊢
    simp only [bnd]
    omega
  | succ dp ih =>
    intro c h
    unfold okC at h
    rw [Bool.or_eq_true] at h
    have hn := numsL_length [c.k, c.t, c.n, c.kids.length]
    simp only [List.length_cons, List.length_nil] at hn
    have hb := bnd_lo dp
    rw [layT_eq, List.length_append, bnd]
    rcases h with h | h
    · have hk := leaf_kids (of_decide_eq_true h)
      have : (laysT c.kids).length = 0 := by rw [hk]; rfl
      omega
    · rw [Bool.and_eq_true] at h
      obtain ⟨h1, h2⟩ := h
      have h4 : c.kids.length ≤ 4 := by unfold headOk at h1; simp at h1; omega
      rw [List.all_eq_true] at h2
      have key : ∀ l : List Cl, (∀ x ∈ l, okC dp x = true) → (laysT l).length ≤ l.length * (9 + bnd dp) := by
        intro l hl
        induction l with
        | nil => simp [laysT]
        | cons x l ihl =>
          rw [laysT, List.length_append, List.length_cons, Nat.add_mul]
          have h3 := rowL_length (layT x)
          have h5 := ih x (hl x List.mem_cons_self)
          have h6 := ihl (fun y hy => hl y (List.mem_cons_of_mem _ hy))
          omega
      have h7 := key c.kids h2
      have h8 : c.kids.length * (9 + bnd dp) ≤ 4 * (9 + bnd dp) := Nat.mul_le_mul_right _ h4
      omega
theorem okC3_len {c : Cl} (h : okC 3 c = true) : (layT c).length ≤ 3816 := okC_len 3 c h
set_option maxRecDepth 100000 in
theorem code_IsCall (d : Nat) (c : Cl) (v : Value) (w : World) (hrd : RdC w d v c) : Calls Tryz.prog 60 #[v] w fun e w' => e = .returned (.bool (okC 3 c)) ∧ Below w.heap.size w w' := by
  obtain ⟨d', ao, cap, -, rfl, -⟩ := hrd.open
  obtain ⟨k, hk⟩ : ∃ k, k = c.k := ⟨_, rfl⟩
  obtain ⟨t, ht⟩ : ∃ t, t = c.t := ⟨_, rfl⟩
  obtain ⟨n, hn⟩ : ∃ n, n = c.n := ⟨_, rfl⟩
  obtain ⟨m, hm⟩ : ∃ m, m = c.kids.length := ⟨_, rfl⟩
  rw [← hk, ← ht, ← hn, ← hm] at hrd ⊢
  obtain ⟨W, hW⟩ : ∃ W, W = w.alloc (.cells #[.int .i64 k, .int .i64 t, .int .i64 n, .slice ao m cap] 45) := ⟨_, rfl⟩
  have hB : Below w.heap.size w W := by rw [hW]; exact (Below.refl _ w).alloc (Nat.le_refl _) _
  have hrg : W.rangeAt w.heap.size 0 [.int .i64 k, .int .i64 t, .int .i64 n, .slice ao m cap] := by rw [hW]; exact rangeAt_new _
  have hcall := code_isCall 3 (by omega) d c _ W (RdC.below hB hrd)
  have HW := Lib.hid hW
  have HC := Lib.hid hcall
  have HB := Lib.hid hB
  have HRG := Lib.hid hrg
  clear hk ht hn hm hW hB hrg hcall hrd
  go_enter Tryz.func60, Tryz.ntmps60
  go_upto_region 1 with fail
  rw [← HW.out]
  go_wp2_with (first
    | (refine wpl_loadC _ rfl rfl rfl HRG.out rfl ?_)
    | (go_at_call 81; refine HC.out.mono ?_; rintro e w1 ⟨rfl, hb⟩; have H1 := Lib.hid (HB.out.trans (hb.mono HB.out.size)); clear hb)
    | fail)
  exact bodyPost_ret (v := .bool (okC 3 c)) (by simp [results, Tryz.results60, go_sem]) rfl ⟨rfl, H1.out⟩
set_option maxRecDepth 100000 in
set_option maxHeartbeats 1000000 in
theorem code_EncodeCall (d : Nat) (c : Cl) (v : Value) (w : World) (hrd : RdC w d v c) : Calls Tryz.prog 43 #[v] w fun e w' => ∃ u, e = .returned (.tuple #[u, .int .i64 (if okC 3 c then 0 else 1)]) ∧ OwnB w.heap.size u (Bs (if okC 3 c then layT c else [])) w' ∧ Below w.heap.size w w' := by
  obtain ⟨d', ao, cap, -, rfl, -⟩ := hrd.open
  obtain ⟨k, hk⟩ : ∃ k, k = c.k := ⟨_, rfl⟩
  obtain ⟨t, ht⟩ : ∃ t, t = c.t := ⟨_, rfl⟩
  obtain ⟨n, hn⟩ : ∃ n, n = c.n := ⟨_, rfl⟩
  obtain ⟨m, hm⟩ : ∃ m, m = c.kids.length := ⟨_, rfl⟩
  rw [← hk, ← ht, ← hn, ← hm] at hrd ⊢
  obtain ⟨W, hW⟩ : ∃ W, W = w.alloc (.cells #[.int .i64 k, .int .i64 t, .int .i64 n, .slice ao m cap] 45) := ⟨_, rfl⟩
  have hB : Below w.heap.size w W := by rw [hW]; exact (Below.refl _ w).alloc (Nat.le_refl _) _
  have hrg : W.rangeAt w.heap.size 0 [.int .i64 k, .int .i64 t, .int .i64 n, .slice ao m cap] := by rw [hW]; exact rangeAt_new _
  have hrd3 := RdC.below hB hrd
  have hcall := code_IsCall d c _ W hrd3
  have hlay := fun W2 (hb : Below W.heap.size W W2) (hl : (layT c).length ≤ 100000) => code_lay d c _ W2 hl (RdC.below hb hrd3)
  have hrg2 := fun W2 (hb : Below W.heap.size W W2) => rangeAt_keep hrg (hb.block w.heap.size (by rw [hW]; simp))
  have hlen := fun h => okC3_len (c := c) h
  obtain ⟨q, hq⟩ : ∃ q, q = okC 3 c := ⟨_, rfl⟩
  rw [← hq] at hcall hlen ⊢
  have HW := Lib.hid hW
  have HC := Lib.hid hcall
  have HL := Lib.hid hlay
  have HLE := Lib.hid hlen
  have HB := Lib.hid hB
  have HRG := Lib.hid hrg
  have HRG2 := Lib.hid hrg2
  clear hk ht hn hm hW hB hrg hcall hrd hrd3 hlay hrg2 hlen hq
  go_enter Tryz.func43, Tryz.ntmps43
  go_upto_region 1 with fail
  rw [← HW.out]
  have tok : True := trivial
  cases q
  · go_wp2_with (first
      | (refine wpl_loadC _ rfl rfl rfl HRG.out rfl ?_)
      | (go_at_call 60; refine HC.out.mono ?_; rintro e w1 ⟨rfl, hb⟩; have H1 := Lib.hid (HB.out.trans (hb.mono HB.out.size)); clear hb)
      | fail)
    exact bodyPost_ret (v := .tuple #[.slice none 0 0, .int .i64 1]) (by simp [results, Tryz.results43, go_sem]) rfl ⟨_, rfl, World.ownsRow_nil _ _ _ _, H1.out⟩
  · go_wp2_with (first
      | (have _t := tok; refine wpl_loadC _ rfl rfl rfl HRG.out rfl ?_; clear tok)
      | (go_at_call 60; refine HC.out.mono ?_; rintro e w1 ⟨rfl, hb⟩; have H1 := Lib.hid hb; clear hb)
      | (refine wpl_loadC _ rfl rfl rfl (HRG2.out _ H1.out) rfl ?_)
      | (go_at_call 61; refine (HL.out _ H1.out (Nat.le_trans (HLE.out (by simp)) (by omega))).mono ?_; rintro e w2 ⟨u, rfl, ho, hb, hs⟩; have H2 := Lib.hid (And.intro (OwnB.ofC ho (Nat.le_trans HB.out.size H1.out.size) (fun _ _ => rfl)) (HB.out.trans ((H1.out.trans (hb.mono H1.out.size)).mono HB.out.size))); clear ho hb hs)
      | fail)
    exact bodyPost_ret (v := .tuple #[u, .int .i64 0]) (by simp [results, Tryz.results43, go_sem]) rfl ⟨u, rfl, H2.out.1, H2.out.2⟩
end Go.Proofs.YtcfcfijmfgnpfaaGreatDoor
end

section
namespace Go.Proofs.YtcfcfijmfgnpfaaGreatDoor
open Go.RowKit
set_option linter.unusedVariables false
set_option linter.unusedSimpArgs false

set_option maxRecDepth 100000 in
set_option maxHeartbeats 4000000 in
theorem law_size (d : Nat) : ∀ (c : Cl) (v : Value) (w : World), RdC w d v c → LenC c → Calls Tryz.prog 34 #[v] w fun e w' => (∃ r : Int, e = .returned (.int .i64 r)) ∧ Below w.heap.size w w' := by
  induction d with
  | zero => intro c v w h; exact h.elim
  | succ d ih =>
  intro c v w hrd hlen
  obtain ⟨d', ao, cap, hd, rfl, hkids⟩ := hrd.open
  obtain rfl : d' = d := by omega
  obtain ⟨hl1, hl2⟩ := (lenC_iff c).1 hlen
  obtain ⟨k, hk⟩ : ∃ k, k = c.k := ⟨_, rfl⟩
  obtain ⟨t, ht⟩ : ∃ t, t = c.t := ⟨_, rfl⟩
  obtain ⟨n, hn⟩ : ∃ n, n = c.n := ⟨_, rfl⟩
  obtain ⟨l, hl⟩ : ∃ l, l = c.kids := ⟨_, rfl⟩
  rw [← hk, ← ht, ← hn, ← hl]
  rw [← hl] at hkids hl1 hl2
  obtain ⟨m, hm⟩ : ∃ m, m = l.length := ⟨_, rfl⟩
  rw [← hm] at hl1 ⊢
  have hmI : (m : Int) ≤ 9223372036854775807 := Int.le_trans (Int.ofNat_le.2 hl1) (by decide +kernel)
  obtain ⟨W, hW⟩ : ∃ W, W = w.alloc (.cells #[.int .i64 k, .int .i64 t, .int .i64 n, .slice ao m cap] 45) := ⟨_, rfl⟩
  have hB : Below w.heap.size w W := by rw [hW]; exact (Below.refl _ w).alloc (Nat.le_refl _) _
  have g1 := World.alloc_heap_new w (.cells #[.int .i64 k, .int .i64 t, .int .i64 n, .slice ao m cap] 45)
  rw [← hW] at g1
  obtain ⟨cb, hcb⟩ : ∃ cb, cb = w.heap.size := ⟨_, rfl⟩
  rw [← hcb] at g1
  have a3 : W.cell? ⟨cb, 3, none⟩ = some (.slice ao m cap) := by rw [World.cell?, g1]; rfl
  have HRD := Lib.hid (RdCs.below hkids hB)
  have HB := Lib.hid hB
  have HM := Lib.hid (And.intro hm hl2)
  have IH := Lib.hid ih
  have HCB := Lib.hid (show cb < W.heap.size by rw [hW, hcb]; simp)
  clear hk ht hn hl hrd hlen hkids hl1 hl2 hm g1 hB ih hd
  go_enter Tryz.func34, Tryz.ntmps34
  go_upto_region 1 with fail
  rw [← hW, ← hcb]
  clear hW hcb
  go_wp2_with fail
  go_loopw [3, 4] (fun r i wr => ∃ (q : Int) (j : Nat), j ≤ m ∧ r = .int .i64 q ∧ i = .int .i64 j ∧ Below W.heap.size W wr) (fun _ i _ => m - (intOf i).toNat)
  case atStart => exact ⟨_, 0, by omega, rfl, rfl, Below.refl _ _⟩
  case round =>
    obtain ⟨q, j, hj, rfl, rfl, hb⟩ := hrel
    have HBW := Lib.hid hb
    have b3 : wr.cell? ⟨cb, 3, none⟩ = some (.slice ao m cap) := (World.cell?_of_block (a := ⟨cb, 3, none⟩) (hb.block cb HCB.out)).trans a3
    clear a3
    by_cases hin : j < m ∧ q < 300
    · obtain ⟨hlt, hq⟩ := hin
      have hlt' : (j : Int) < m := by omega
      have hjl : j < l.length := by rw [← HM.out.1]; exact hlt
      obtain ⟨kb, ko, vs, rfl, hkb, hrg, hrd⟩ := HRD.out j hjl
      have hrg2 : wr.rangeAt kb (ko + j * 4) vs := rangeAt_keep hrg (hb.block kb hkb)
      have hrd2 : RdC wr d' (.agg vs.toArray) l[j] := RdC.below hb hrd
      have hcall := IH.out l[j] _ wr hrd2 (HM.out.2 _ (List.getElem_mem hjl))
      obtain ⟨a4, c4, e4⟩ := hrd2.cells
      obtain ⟨c1, c2, c3, c5, e5⟩ : ∃ c1 c2 c3 c5, vs = [.int .i64 c1, .int .i64 c2, .int .i64 c3, .slice a4 c5 c4] := ⟨_, _, _, _, e4⟩
      clear e4
      subst e5
      have HCA := Lib.hid hcall
      have HRG := Lib.hid hrg2
      clear hkb hrg hrd hrg2 hrd2 hcall hb hjl
      go_wp2_with (first
        | (refine wpl_loadC _ rfl rfl rfl HRG.out rfl ?_)
        | (go_at_call 34; refine HCA.out.mono ?_; rintro e w1 ⟨⟨r, rfl⟩, hb⟩; have H1 := Lib.hid (HBW.out.trans (hb.mono HBW.out.size)); clear hb)
        | fail)
      go_roundw
      case rel => exact ⟨_, j + 1, by omega, rfl, by go_num, H1.out⟩
      case measure => simp [intOf]; omega
    · have hex : (¬ (j : Int) < m) ∨ ((j : Int) < m ∧ ¬ q < 300) := by omega
      clear hin hb hj
      rcases hex with h1 | ⟨h1, h2⟩
      all_goals go_wp2_with fail
      all_goals exact bodyPost_ret (v := .int .i64 q) (by simp [results, Tryz.results34, go_sem]) rfl ⟨⟨_, rfl⟩, HB.out.trans (HBW.out.mono HB.out.size)⟩
end Go.Proofs.YtcfcfijmfgnpfaaGreatDoor
end

section
namespace Go.Proofs.YtcfcfijmfgnpfaaGreatDoor
open Go.RowKit
set_option linter.unusedVariables false

/-- x turned to the right by n. -/
def rot (x n : Nat) : Nat := (x / 2 ^ n) ||| (x * 2 ^ (64 - n) % 18446744073709551616)

theorem rot_lt {x n : Nat} (hx : x < 18446744073709551616) : rot x n < 18446744073709551616 := by
  unfold rot
  exact Nat.or_lt_two_pow (n := 64) (Nat.lt_of_le_of_lt (Nat.div_le_self _ _) hx) (Nat.mod_lt _ (by decide))

theorem or_rot (x a b : Nat) (hx : x < 18446744073709551616) : bits .or .u64 ((x : Int) / (a : Int)) (IntKind.u64.wrap ((x : Int) * (b : Int))) = ((x / a ||| x * b % 18446744073709551616 : Nat) : Int) := by
  have h2 : IntKind.u64.wrap ((x : Int) * (b : Int)) = ((x * b % 18446744073709551616 : Nat) : Int) := by
    rw [IntKind.wrap_u64, ← Int.natCast_mul]; omega
  rw [h2, ← Int.natCast_ediv]
  exact bits_or_u64_nat _ _ (Nat.lt_of_le_of_lt (Nat.div_le_self _ _) hx) (Nat.mod_lt _ (by decide))
theorem or_rot' (x a b : Nat) (hx : x < 18446744073709551616) : bits .or .u64 (IntKind.u64.wrap ((x : Int) * (b : Int))) ((x : Int) / (a : Int)) = ((x / a ||| x * b % 18446744073709551616 : Nat) : Int) := by
  have h2 : IntKind.u64.wrap ((x : Int) * (b : Int)) = ((x * b % 18446744073709551616 : Nat) : Int) := by
    rw [IntKind.wrap_u64, ← Int.natCast_mul]; omega
  rw [h2, ← Int.natCast_ediv, Nat.or_comm]
  exact bits_or_u64_nat _ _ (Nat.mod_lt _ (by decide)) (Nat.lt_of_le_of_lt (Nat.div_le_self _ _) hx)
theorem ret_u64 {a b : Int} (h : a = b) : Ending.returned (.int .u64 a) = .returned (.int .u64 b) := by rw [h]

theorem ref_turned (x n : Nat) (w : World) (hx : x < 18446744073709551616) (hn : n = 32 ∨ n = 24 ∨ n = 16 ∨ n = 63) :
    Calls Tryz.prog 117 #[.int .u64 (x : Nat), .int .u64 (n : Nat)] w fun e w' => e = .returned (.int .u64 (rot x n : Nat)) ∧ w = w' := by
  rcases hn with rfl | rfl | rfl | rfl
  all_goals
    go_enter Tryz.func117, Tryz.ntmps117
    go_wp2
    go_ret
    exact ⟨ret_u64 (or_rot x _ _ hx), rfl⟩

theorem lib_rotate (x n : Nat) (m : Int) (w : World) (hx : x < 18446744073709551616) (hn : (n = 32 ∧ m = -32) ∨ (n = 24 ∧ m = -24) ∨ (n = 16 ∧ m = -16) ∨ (n = 63 ∧ m = -63)) :
    Calls Tryz.prog 150 #[.int .u64 (x : Nat), .int .i64 m] w fun e w' => e = .returned (.int .u64 (rot x n : Nat)) ∧ w = w' := by
  have e1 : IntKind.u64.wrap (-32) = 18446744073709551584 := by decide
  have e2 : IntKind.u64.wrap (-24) = 18446744073709551592 := by decide
  have e3 : IntKind.u64.wrap (-16) = 18446744073709551600 := by decide
  have e4 : IntKind.u64.wrap (-63) = 18446744073709551553 := by decide
  have b1 : bits .and .u64 18446744073709551584 63 = 32 := by decide
  have b2 : bits .and .u64 18446744073709551592 63 = 40 := by decide
  have b3 : bits .and .u64 18446744073709551600 63 = 48 := by decide
  have b4 : bits .and .u64 18446744073709551553 63 = 1 := by decide
  rcases hn with ⟨rfl, rfl⟩ | ⟨rfl, rfl⟩ | ⟨rfl, rfl⟩ | ⟨rfl, rfl⟩
  all_goals
    go_enter Tryz.func150, Tryz.ntmps150
    go_wp2
    go_ret
    exact ⟨ret_u64 (or_rot' x _ _ hx), rfl⟩
end Go.Proofs.YtcfcfijmfgnpfaaGreatDoor
end

section
namespace Go.Proofs.YtcfcfijmfgnpfaaGreatDoor
open Go.RowKit
set_option linter.unusedVariables false

/-- Words in a block: so many numbers below 2^64. -/
def Ws (l : List Nat) : Array Value := (l.map fun (n : Nat) => Value.int .u64 (n : Int)).toArray
/-- The word at a place. -/
def gt (l : List Nat) (i : Nat) : Nat := l.getD i 0
def Small (l : List Nat) : Prop := ∀ i, gt l i < 18446744073709551616
/-- A block that holds just these words. -/
structure WBox (t : TypeId) (b : Nat) (l : List Nat) (w : World) : Prop where
  at_ : w.heap[b]? = some (.cells (Ws l) t (0, 0))
  small : Small l
theorem Small.set {l : List Nat} (h : Small l) (i : Nat) {x : Nat} (hx : x < 18446744073709551616) : Small (l.set i x) := by
  intro j
  have := h j
  simp only [gt, List.getD_eq_getElem?_getD, List.getElem?_set] at this ⊢
  split
  · split
    · simpa using hx
    · simp
  · exact this
theorem WBox.lt {t : TypeId} {b : Nat} {l : List Nat} {w : World} (h : WBox t b l w) : b < w.heap.size := (Array.getElem?_eq_some_iff.1 h.at_).1
theorem WBox.cell {t : TypeId} {b : Nat} {l : List Nat} {w : World} (h : WBox t b l w) {i : Nat} (hi : i < l.length) : w.cell? ⟨b, i, none⟩ = some (.int .u64 (gt l i : Nat)) := by
  simp [World.cell?, h.at_, Ws, hi, gt]
theorem WBox.frozen {t : TypeId} {b : Nat} {l : List Nat} {w : World} (h : WBox t b l w) (i : Nat) : w.frozen? ⟨b, i, none⟩ = false := by simp [World.frozen?, h.at_]
theorem set_blockM {w : World} {b i : Nat} {cs : Array Value} {t : TypeId} {fr : Nat × Nat} (v : Value) (h : w.heap[b]? = some (.cells cs t fr)) : (w.setCell ⟨b, i, none⟩ v).heap[b]? = some (.cells (cs.setIfInBounds i v) t fr) := by
  obtain ⟨hlt, hk⟩ := Array.getElem?_eq_some_iff.1 h
  show (w.heap.modify b _)[b]? = _
  rw [Array.getElem?_eq_getElem (by rw [Array.size_modify]; exact hlt), Array.getElem_modify_self, hk]
  rfl
theorem set_other {w : World} {k : Nat} {a : Addr} {v : Value} (h : k ≠ a.block) : (w.setCell a v).heap[k]? = w.heap[k]? := by
  show (w.heap.modify a.block _)[k]? = _
  rw [Array.getElem?_modify, if_neg (fun e => h e.symm)]
theorem WBox.set {t : TypeId} {b : Nat} {l : List Nat} {w : World} (h : WBox t b l w) (i : Nat) {x : Nat} (hx : x < 18446744073709551616) : WBox t b (l.set i x) (w.setCell ⟨b, i, none⟩ (.int .u64 (x : Nat))) := by
  refine ⟨(set_blockM _ h.at_).trans ?_, h.small.set i hx⟩
  simp [Ws, List.map_set]

/-- Only block b may have changed; no block is new. -/
structure Upd (b : Nat) (w w' : World) : Prop where
  os : w'.os = w.os
  tape : w'.tape = w.tape
  output : w'.output = w.output
  size : w'.heap.size = w.heap.size
  block : ∀ k, k ≠ b → w'.heap[k]? = w.heap[k]?
theorem Upd.refl (b : Nat) (w : World) : Upd b w w := ⟨rfl, rfl, rfl, rfl, fun _ _ => rfl⟩
theorem Upd.trans {b : Nat} {x y z : World} (h : Upd b x y) (k : Upd b y z) : Upd b x z := ⟨k.os.trans h.os, k.tape.trans h.tape, k.output.trans h.output, k.size.trans h.size, fun i hi => (k.block i hi).trans (h.block i hi)⟩
theorem Upd.set {b : Nat} {x y : World} (h : Upd b x y) (i : Nat) (v : Value) : Upd b x (y.setCell ⟨b, i, none⟩ v) := h.trans ⟨rfl, rfl, rfl, by simp, fun k hk => set_other hk⟩
theorem Upd.drew {b : Nat} {x y : World} (h : Upd b x y) : Upd b x y.drew := ⟨h.os, h.tape, h.output, h.size, h.block⟩
theorem Upd.below {b N : Nat} {x y : World} (h : Upd b x y) (hb : N ≤ b) : Below N x y := ⟨h.os, h.tape, h.output, Nat.le_of_eq h.size.symm, fun k hk => h.block k (by omega)⟩

/-- One number of the four is summed up, or turned. -/
def addS (v : List Nat) (a b x : Nat) : List Nat := v.set a ((gt v a + gt v b + x) % 18446744073709551616)
def rotS (v : List Nat) (d a n : Nat) : List Nat := v.set d (rot (gt v d ^^^ gt v a) n)
def mixL (v : List Nat) (a b c d x y : Nat) : List Nat :=
  rotS (addS (rotS (addS (rotS (addS (rotS (addS v a b x) d a 32) c d 0) b c 24) a b y) d a 16) c d 0) b c 63
theorem addS_len (v : List Nat) (a b x : Nat) : (addS v a b x).length = v.length := by simp [addS]
theorem rotS_len (v : List Nat) (d a n : Nat) : (rotS v d a n).length = v.length := by simp [rotS]

/-- What is known at a step: the words, and that only their block has turned. -/
structure MS (t : TypeId) (b : Nat) (w0 : World) (l : List Nat) (w : World) : Prop where
  box : WBox t b l w
  len : l.length = 16
  upd : Upd b w0 w
theorem MS.addS {t : TypeId} {b : Nat} {w0 w : World} {l : List Nat} (h : MS t b w0 l w) (i j x : Nat) {v : Int} (hv : v = ((gt l i + gt l j + x) % 18446744073709551616 : Nat)) : MS t b w0 (addS l i j x) (w.setCell ⟨b, i, none⟩ (.int .u64 v)).drew := by
  subst hv
  have k := h.box.set i (x := (gt l i + gt l j + x) % 18446744073709551616) (Nat.mod_lt _ (by decide))
  exact ⟨⟨k.at_, k.small⟩, by rw [addS_len]; exact h.len, (h.upd.set _ _).drew⟩
theorem MS.rotS {t : TypeId} {b : Nat} {w0 w : World} {l : List Nat} (h : MS t b w0 l w) (i j n : Nat) : MS t b w0 (rotS l i j n) (w.setCell ⟨b, i, none⟩ (.int .u64 (rot (gt l i ^^^ gt l j) n : Nat))).drew := by
  have k := h.box.set i (x := rot (gt l i ^^^ gt l j) n) (rot_lt (Nat.xor_lt_two_pow (n := 64) (h.box.small i) (h.box.small j)))
  exact ⟨⟨k.at_, k.small⟩, by rw [rotS_len]; exact h.len, (h.upd.set _ _).drew⟩
theorem MS.facts {t : TypeId} {b : Nat} {w0 w : World} {l : List Nat} (h : MS t b w0 l w) (i j : Nat) (hi : i < 16) (hj : j < 16) :
    w.cell? ⟨b, i, none⟩ = some (.int .u64 (gt l i : Nat)) ∧ w.cell? ⟨b, j, none⟩ = some (.int .u64 (gt l j : Nat)) ∧ w.frozen? ⟨b, i, none⟩ = false ∧ bits .xor .u64 (gt l i : Nat) (gt l j : Nat) = ((gt l i ^^^ gt l j : Nat) : Int) ∧ gt l i ^^^ gt l j < 18446744073709551616 :=
  ⟨h.box.cell (by rw [h.len]; exact hi), h.box.cell (by rw [h.len]; exact hj), h.box.frozen i, bits_xor_u64_nat _ _ (h.box.small i) (h.box.small j), Nat.xor_lt_two_pow (n := 64) (h.box.small i) (h.box.small j)⟩
theorem add3_l (p q x : Nat) : IntKind.u64.wrap (IntKind.u64.wrap ((p : Int) + (q : Int)) + (x : Int)) = ((p + q + x) % 18446744073709551616 : Nat) := by
  simp only [IntKind.wrap_u64]; omega
theorem add3_r (p q x : Nat) : IntKind.u64.wrap ((p : Int) + IntKind.u64.wrap ((q : Int) + (x : Int))) = ((p + q + x) % 18446744073709551616 : Nat) := by
  simp only [IntKind.wrap_u64]; omega
theorem add2 (p q : Nat) : IntKind.u64.wrap ((p : Int) + (q : Int)) = ((p + q + 0) % 18446744073709551616 : Nat) := by
  simp only [IntKind.wrap_u64]; omega

theorem ref_turned_still {P Q : Int} (x n : Nat) (w : World) (hP : P = (x : Int)) (hQ : Q = (n : Int)) (hx : x < 18446744073709551616) (hn : n = 32 ∨ n = 24 ∨ n = 16 ∨ n = 63) :
    Calls Tryz.prog 117 #[.int .u64 P, .int .u64 Q] w fun e w' => e = .returned (.int .u64 (rot x n : Nat)) ∧ w' = w := by
  subst hP hQ; exact (ref_turned x n w hx hn).mono fun e w' h => ⟨h.1, h.2.symm⟩
theorem lib_rotate_still {P : Int} (x n : Nat) (m : Int) (w : World) (hP : P = (x : Int)) (hx : x < 18446744073709551616) (hn : (n = 32 ∧ m = -32) ∨ (n = 24 ∧ m = -24) ∨ (n = 16 ∧ m = -16) ∨ (n = 63 ∧ m = -63)) :
    Calls Tryz.prog 150 #[.int .u64 P, .int .i64 m] w fun e w' => e = .returned (.int .u64 (rot x n : Nat)) ∧ w' = w := by
  subst hP; exact (lib_rotate x n m w hx hn).mono fun e w' h => ⟨h.1, h.2.symm⟩
end Go.Proofs.YtcfcfijmfgnpfaaGreatDoor
end

section
namespace Go.Proofs.YtcfcfijmfgnpfaaGreatDoor
set_option linter.unusedVariables false

theorem gt_set_same {l : List Nat} {i x : Nat} (h : i < l.length) : gt (l.set i x) i = x := by simp [gt, h]
theorem gt_set_ne {l : List Nat} {i j x : Nat} (h : i ≠ j) : gt (l.set i x) j = gt l j := by simp [gt, List.getElem?_set_ne h]
theorem gt_ge {l : List Nat} {i : Nat} (h : l.length ≤ i) : gt l i = 0 := by simp [gt, h]
theorem ext_gt {a b : List Nat} (hl : a.length = b.length) (h : ∀ i, i < a.length → gt a i = gt b i) : a = b := by
  refine List.ext_getElem hl fun i h1 h2 => ?_
  have := h i h1
  simpa [gt, h1, h2] using this
theorem gt_append_l {a b : List Nat} {i : Nat} (h : i < a.length) : gt (a ++ b) i = gt a i := by simp [gt, List.getElem?_append_left h]
theorem gt_append_r {a b : List Nat} {i : Nat} (h : a.length ≤ i) : gt (a ++ b) i = gt b (i - a.length) := by simp [gt, List.getElem?_append_right h]
theorem gt_map_range {n i : Nat} {f : Nat → Nat} (h : i < n) : gt ((List.range n).map f) i = f i := by simp [gt, h]
theorem gt_take {l : List Nat} {n i : Nat} (h : i < n) : gt (l.take n) i = gt l i := by simp [gt, h]
theorem gt_drop {l : List Nat} {n i : Nat} : gt (l.drop n) i = gt l (n + i) := by simp [gt]

theorem gt_zeros (n i : Nat) : gt (List.replicate n 0) i = 0 := by
  unfold gt
  rw [List.getD_eq_getElem?_getD, List.getElem?_replicate]; split <;> rfl
theorem small_zeros (n : Nat) : Small (List.replicate n 0) := fun i => by rw [gt_zeros]; decide
/-- V. -/
def beginL : List Nat := [7640891576956012808, 13503953896175478587, 4354685564936845355, 11912009170470909681, 5840696475078001361, 11170449401992604703, 2270897969802886507, 6620516959819538809]
/-- A row of O. -/
def orderL : Nat → List Nat
  | 0 => [0, 1, 2, 3, 4, 5, 6, 7, 8, 9, 10, 11, 12, 13, 14, 15]
  | 1 => [14, 10, 4, 8, 9, 15, 13, 6, 1, 12, 0, 2, 11, 7, 5, 3]
  | 2 => [11, 8, 12, 0, 5, 2, 15, 13, 10, 14, 3, 6, 7, 1, 9, 4]
  | 3 => [7, 9, 3, 1, 13, 12, 11, 14, 2, 6, 5, 10, 4, 0, 15, 8]
  | 4 => [9, 0, 5, 7, 2, 4, 10, 15, 14, 1, 11, 12, 6, 8, 3, 13]
  | 5 => [2, 12, 6, 10, 0, 11, 8, 3, 4, 13, 7, 5, 15, 14, 1, 9]
  | 6 => [12, 5, 1, 15, 14, 13, 4, 10, 0, 7, 6, 3, 9, 2, 8, 11]
  | 7 => [13, 11, 7, 14, 12, 1, 3, 9, 5, 0, 15, 4, 8, 6, 2, 10]
  | 8 => [6, 15, 14, 9, 11, 3, 0, 8, 12, 2, 13, 7, 1, 4, 10, 5]
  | _ => [10, 2, 8, 4, 7, 6, 1, 5, 15, 11, 9, 14, 3, 12, 13, 0]
theorem orderL_lt : ∀ i j, gt (orderL i) j < 16 := by
  intro i j
  by_cases hj : j < 16
  · have h9 : ∀ i, 9 ≤ i → orderL i = orderL 9 := fun i hi => by
      match i, hi with
      | n + 9, _ => rfl
    by_cases hi : i < 10
    · have : ∀ i, i < 10 → ∀ j, j < 16 → gt (orderL i) j < 16 := by decide +kernel
      exact this i hi j hj
    · rw [h9 i (by omega)]
      have : ∀ j, j < 16 → gt (orderL 9) j < 16 := by decide +kernel
      exact this j hj
  · rw [gt_ge]
    · decide
    · unfold orderL; split <;> simp <;> omega
def colL (m s : List Nat) : Nat → List Nat → List Nat
  | 0, v => v
  | k + 1, v => let u := colL m s k v; mixL u k (k + 4) (k + 8) (k + 12) (gt m (gt s (2 * k))) (gt m (gt s (2 * k + 1)))
def diaL (m s : List Nat) : Nat → List Nat → List Nat
  | 0, v => v
  | k + 1, v => let u := diaL m s k v; mixL u k ((k + 1) % 4 + 4) ((k + 2) % 4 + 8) ((k + 3) % 4 + 12) (gt m (gt s (2 * k + 8))) (gt m (gt s (2 * k + 9)))
def roundL (m s v : List Nat) : List Nat := diaL m s 4 (colL m s 4 v)
def roundsL (m : List Nat) : Nat → List Nat → List Nat
  | 0, v => v
  | i + 1, v => roundL m (orderL (i % 10)) (roundsL m i v)
/-- The words that are mixed, at first. -/
def startL (h : List Nat) (count : Nat) (last : Bool) : List Nat :=
  let v := (h ++ beginL).set 12 (gt (h ++ beginL) 12 ^^^ count)
  if last then v.set 14 (18446744073709551615 - gt v 14) else v
def foldL (h v : List Nat) : List Nat := (List.range 8).map fun i => gt h i ^^^ gt v i ^^^ gt v (i + 8)
def blockL (h m : List Nat) (count : Nat) (last : Bool) : List Nat := foldL h (roundsL m 12 (startL h count last))
/-- The lowest j bytes of a word of bytes. -/
def wordTo (p : List Nat) (o : Nat) : Nat → Nat
  | 0 => 0
  | j + 1 => wordTo p o j + 256 ^ j * gt p (o + j)
def wordsL (p : List Nat) : List Nat := (List.range 16).map fun i => wordTo p (8 * i) 8
def padL (p : List Nat) : List Nat := p ++ List.replicate (128 - p.length) 0
/-- What h is behind all that is left. -/
def chainL (h rest : List Nat) (count : Nat) : List Nat :=
  if 128 < rest.length then chainL (blockL h (wordsL (rest.take 128)) (count + 128) false) (rest.drop 128) (count + 128)
  else blockL h (wordsL (padL rest)) (count + rest.length) true
  termination_by rest.length
  decreasing_by simp; omega
def initL (k : Nat) : List Nat := beginL.set 0 ((gt beginL 0 ^^^ 16842784) ^^^ k * 256)
def allL (key p : List Nat) : List Nat := (if key = [] then [] else key ++ List.replicate (128 - key.length) 0) ++ p
def outL (h : List Nat) : List Nat := (List.range 32).map fun i => gt h (i / 8) / 2 ^ (8 * (i % 8)) % 256
/-- The digest. -/
def keyedL (key p : List Nat) : List Nat := outL (chainL (initL (key.take 64).length) (allL (key.take 64) p) 0)

theorem mixL_len (v : List Nat) (a b c d x y : Nat) : (mixL v a b c d x y).length = v.length := by simp [mixL, addS_len, rotS_len]
theorem colL_len (m s v : List Nat) : ∀ k, (colL m s k v).length = v.length
  | 0 => rfl
  | k + 1 => by simp [colL, mixL_len, colL_len m s v k]
theorem diaL_len (m s v : List Nat) : ∀ k, (diaL m s k v).length = v.length
  | 0 => rfl
  | k + 1 => by simp [diaL, mixL_len, diaL_len m s v k]
theorem roundsL_len (m v : List Nat) : ∀ k, (roundsL m k v).length = v.length
  | 0 => rfl
  | k + 1 => by simp [roundsL, roundL, diaL_len, colL_len, roundsL_len m v k]
theorem startL_len (h : List Nat) (hl : h.length = 8) (c : Nat) (b : Bool) : (startL h c b).length = 16 := by
  unfold startL; split <;> simp [hl, beginL]
theorem blockL_len (h m : List Nat) (c : Nat) (b : Bool) : (blockL h m c b).length = 8 := by simp [blockL, foldL]
theorem wordTo_lt {p : List Nat} (hp : ∀ i, gt p i < 256) (o : Nat) : ∀ j, wordTo p o j < 256 ^ j
  | 0 => by simp [wordTo]
  | j + 1 => by
    have h1 := wordTo_lt hp o j
    have h2 := hp (o + j)
    simp only [wordTo, Nat.pow_succ]
    have : 256 ^ j * gt p (o + j) ≤ 256 ^ j * 255 := Nat.mul_le_mul_left _ (by omega)
    omega

theorem addS_small {v : List Nat} (h : Small v) (a b x : Nat) : Small (addS v a b x) := h.set a (Nat.mod_lt _ (by decide))
theorem rotS_small {v : List Nat} (h : Small v) (d a n : Nat) : Small (rotS v d a n) := h.set d (rot_lt (Nat.xor_lt_two_pow (n := 64) (h d) (h a)))
theorem mixL_small {v : List Nat} (h : Small v) (a b c d x y : Nat) : Small (mixL v a b c d x y) :=
  rotS_small (addS_small (rotS_small (addS_small (rotS_small (addS_small (rotS_small (addS_small h _ _ _) _ _ _) _ _ _) _ _ _) _ _ _) _ _ _) _ _ _) _ _ _
theorem colL_small {v : List Nat} (m s : List Nat) (h : Small v) : ∀ k, Small (colL m s k v)
  | 0 => h
  | k + 1 => mixL_small (colL_small m s h k) _ _ _ _ _ _
theorem diaL_small {v : List Nat} (m s : List Nat) (h : Small v) : ∀ k, Small (diaL m s k v)
  | 0 => h
  | k + 1 => mixL_small (diaL_small m s h k) _ _ _ _ _ _
theorem roundsL_small {v : List Nat} (m : List Nat) (h : Small v) : ∀ k, Small (roundsL m k v)
  | 0 => h
  | k + 1 => diaL_small _ _ (colL_small _ _ (roundsL_small m h k) _) _
theorem beginL_small : Small beginL := fun i => by
  by_cases hi : i < 8
  · have : ∀ i, i < 8 → gt beginL i < 18446744073709551616 := by decide
    exact this i hi
  · rw [gt_ge (by simp [beginL]; omega)]; decide
theorem startL_small {h : List Nat} (hs : Small h) (c : Nat) (hc : c < 18446744073709551616) (b : Bool) : Small (startL h c b) := by
  have h0 : Small (h ++ beginL) := fun i => by
    by_cases hi : i < h.length
    · rw [gt_append_l hi]; exact hs i
    · rw [gt_append_r (by omega)]; exact beginL_small _
  have h1 : Small ((h ++ beginL).set 12 (gt (h ++ beginL) 12 ^^^ c)) := h0.set 12 (Nat.xor_lt_two_pow (n := 64) (h0 12) hc)
  unfold startL
  split
  · exact h1.set 14 (by have := h1 14; omega)
  · exact h1
theorem blockL_small {h : List Nat} (m : List Nat) (c : Nat) (hs : Small h) (hc : c < 18446744073709551616) (b : Bool) : Small (blockL h m c b) := by
  have hv := roundsL_small m (startL_small hs c hc b) 12
  intro i
  by_cases hi : i < 8
  · rw [blockL, foldL, gt_map_range hi]
    exact Nat.xor_lt_two_pow (n := 64) (Nat.xor_lt_two_pow (n := 64) (hs i) (hv i)) (hv _)
  · rw [gt_ge (by rw [blockL_len]; omega)]; decide

theorem chainL_more {h rest : List Nat} {c : Nat} (hl : 128 < rest.length) : chainL h rest c = chainL (blockL h (wordsL (rest.take 128)) (c + 128) false) (rest.drop 128) (c + 128) := by
  rw [chainL, if_pos hl]
theorem chainL_last {h rest : List Nat} {c : Nat} (hl : rest.length ≤ 128) : chainL h rest c = blockL h (wordsL (padL rest)) (c + rest.length) true := by
  rw [chainL, if_neg (by omega)]

/-- 'abc'. -/
theorem known_abc : keyedL [] [97, 98, 99] = [189, 221, 129, 60, 99, 66, 57, 114, 49, 113, 239, 63, 238, 152, 87, 155, 148, 150, 78, 59, 177, 203, 62, 66, 114, 98, 200, 192, 104, 213, 35, 25] := by
  have e : chainL (initL 0) [97, 98, 99] 0 = blockL (initL 0) (wordsL (padL [97, 98, 99])) 3 true := by rw [chainL, if_neg (by decide)]; rfl
  show outL (chainL (initL 0) [97, 98, 99] 0) = _
  rw [e]
  decide +kernel
end Go.Proofs.YtcfcfijmfgnpfaaGreatDoor
end

section
namespace Go.Proofs.YtcfcfijmfgnpfaaGreatDoor
open Go.RowKit
set_option linter.unusedVariables false

/-- What is owned stays so, where only new memory has turned. -/
theorem own_kept {B : Nat} {v : Value} {xs : List Value} {w w' : World} (h : OwnB B v xs w) (hb : Below w.heap.size w w') (hs : B ≤ w.heap.size) : OwnB B v xs w' := by
  refine World.ownsRow.kept (row := none) h ⟨hb.os, hb.tape, hb.output, hb.size, fun k hk _ => hb.block k hk⟩ ?_
  rcases h.2 with ⟨rfl, -⟩ | ⟨g, cap, cur, rfl, -⟩
  · exact .inl rfl
  · exact .inr (by simp [Value.ownBlock])

/-- The row that bytes begin with, and how many they are. -/
def cutL (l : List Nat) : Option (List Nat × Nat) :=
  match takeL l with
  | none => none
  | some (n, s) => if n > l.length - s then none else some ((l.drop s).take n, s + n)

/-- What a cut tells. -/
def CutRet (o : Option (List Nat × Nat)) (w : World) (e : Ending) (w' : World) : Prop :=
  Below w.heap.size w w' ∧ match o with
  | none => e = .returned (.tuple #[.slice none 0 0, .int .i64 0, .bool false])
  | some (p, s) => ∃ v, e = .returned (.tuple #[v, .int .i64 (s : Nat), .bool true]) ∧ RdB w' v p
/-- .. and what it tells is its own. -/
def CutOwn (o : Option (List Nat × Nat)) (w : World) (e : Ending) (w' : World) : Prop :=
  Below w.heap.size w w' ∧ w.heap.size ≤ w'.heap.size ∧ match o with
  | none => e = .returned (.tuple #[.slice none 0 0, .int .i64 0, .bool false])
  | some (p, s) => ∃ v, e = .returned (.tuple #[v, .int .i64 (s : Nat), .bool true]) ∧ OwnB w.heap.size v (Bs p) w'

theorem takeL_le {l : List Nat} {n s : Nat} (h : takeL l = some (n, s)) : s ≤ l.length ∧ n ≤ 4611686018427387904 ∧ 1 ≤ s := by
  by_cases hl : l = []
  · simp [takeL, hl] at h
  by_cases h9 : toldN (l.getD 0 0) > 9 ∨ toldN (l.getD 0 0) > l.length
  · simp only [takeL, if_neg hl, if_pos h9] at h; exact absurd h (by simp)
  simp only [takeL, if_neg hl, if_neg h9] at h
  obtain ⟨u, hu⟩ : ∃ u, u = if toldN (l.getD 0 0) > 4 then valL ((l.take (toldN (l.getD 0 0))).drop 1) else valL (l.take (toldN (l.getD 0 0))) / 4 := ⟨_, rfl⟩
  rw [← hu] at h
  by_cases hc : u > 4611686018427387904 ∨ sizeN u ≠ toldN (l.getD 0 0)
  · rw [if_pos hc] at h; exact absurd h (by simp)
  rw [if_neg hc] at h
  have := toldN_pos (l.getD 0 0)
  injection h with h
  injection h with h1 h2
  obtain ⟨z, hz⟩ : ∃ z, z = toldN (l.getD 0 0) := ⟨_, rfl⟩
  rw [← hz] at h9 h2 this
  omega

theorem rd_drop {w : World} {a : Addr} {cap n : Nat} {l : List Nat} (h : RdB w (.slice (some a) n cap) l) {s k : Nat} (hk : s + k ≤ n) (hs : a.spot = none) : RdB w (.slice (some ⟨a.block, a.off + s, none⟩) k (cap - s)) ((l.drop s).take k) := by
  rcases h with ⟨h1, h2⟩ | ⟨a', cap', h1, hc, hcell⟩
  · cases h1
  · injection h1 with h1 h2 h3
    injection h1 with h1
    subst h1 h2 h3
    have hlen : ((l.drop s).take k).length = k := by simp; omega
    obtain ⟨b, o, sp⟩ := a
    simp only at hs; subst hs
    refine .inr ⟨⟨b, o + s, none⟩, cap - s, by rw [hlen], by rw [hlen]; omega, fun i hi => ?_⟩
    rw [hlen] at hi
    have := hcell (s + i) (by omega)
    rw [add_at] at this ⊢
    rw [show o + s + i = o + (s + i) by omega, this]
    simp only [List.getD_eq_getElem?_getD, List.getElem?_take, List.getElem?_drop]
    rw [if_pos hi]

set_option maxHeartbeats 1000000 in
theorem compact_Cut (v : Value) (l : List Nat) (w : World) (h : RdB w v l) (hb : ∀ b ∈ l, b < 256) (hm : l.length ≤ 1000000000) :
    Calls Tryz.prog 111 #[v] w (CutOwn (cutL l) w) := by
  have HB := Lib.hid hb
  have HR : Hid (RdB w v l) := Lib.hid h
  cases ht : takeL l with
  | none =>
    have hc : cutL l = none := by unfold cutL; rw [ht]
    rw [hc]
    have HT := Lib.hid ht
    obtain ⟨ao, cap, rfl⟩ := h.lenOf
    clear h hb hc ht
    go_enter Tryz.func111, Tryz.ntmps111
    go_wp2_with (first | (go_at_call 110; refine (compact_Take _ _ _ HR.out HB.out).mono ?_; rw [HT.out]; rintro e w' ⟨rfl, rfl⟩; simp only [takeV]) | fail)
    go_ret3
    exact ⟨Below.refl _ _, Nat.le_refl _, rfl⟩
  | some x =>
    obtain ⟨n, s⟩ := x
    obtain ⟨hs, hn, hs1⟩ := takeL_le ht
    have hc : cutL l = if n > l.length - s then none else some ((l.drop s).take n, s + n) := by unfold cutL; rw [ht]
    rw [hc]
    clear hc
    have HT := Lib.hid ht
    clear ht
    rcases h with ⟨-, h⟩ | ⟨⟨blk, off, spot⟩, cap, rfl, hcap, hcell⟩
    · subst h; simp at hs; omega
    have hspot : spot = none := by
      have := World.cell?_spot (hcell 0 (by omega)); simpa [Addr.add] using this
    subst hspot
    clear hcell hb
    by_cases hgt : n > l.length - s
    · rw [if_pos hgt]
      have g1 : decide ((l.length : Int) - (s : Int) < (n : Int)) = true := by simp; omega
      go_enter Tryz.func111, Tryz.ntmps111
      go_wp2_with (first | (go_at_call 110; refine (compact_Take _ _ _ HR.out HB.out).mono ?_; rw [HT.out]; rintro e w' ⟨rfl, rfl⟩; simp only [takeV]) | fail)
      go_ret3
      exact ⟨Below.refl _ _, Nat.le_refl _, rfl⟩
    · rw [if_neg hgt]
      have g1 : decide ((l.length : Int) - (s : Int) < (n : Int)) = false := by simp; omega
      have hx1 : (s : Int) + (n : Int) ≤ (cap : Int) := by omega
      have hx2 : ((s : Int) + (n : Int)).toNat = s + n := by omega
      have hx3 : s + n - s = n := by omega
      have hlen : ((l.drop s).take n).length = n := by simp; omega
      have HL := Lib.hid hlen
      clear hlen
      by_cases hcs : s = cap
      · subst hcs
        obtain rfl : n = 0 := by omega
        have hrd : RdB w (.slice (some ⟨blk, off, none⟩) 0 (s - s)) ((l.drop s).take 0) := .inr ⟨_, _, rfl, by simp, fun i hi => by simp at hi⟩
        rw [Nat.sub_self] at hrd
        have HRD := Lib.hid hrd
        clear hrd
        go_enter Tryz.func111, Tryz.ntmps111
        go_wp2_with (first | (go_at_call 110; refine (compact_Take _ _ _ HR.out HB.out).mono ?_; rw [HT.out]; rintro e w' ⟨rfl, rfl⟩; simp only [takeV]) | (go_at_call 103; refine (bytes_Clone _ _ _ HRD.out (by rw [HL.out]; omega)).mono ?_; rintro e w1 ⟨v1, rfl, ho1, hb1, hs1⟩) | fail)
        go_ret3
        exact ⟨hb1, hs1, v1, rfl, ho1⟩
      · have hrd := rd_drop HR.out (s := s) (k := n) (by omega) rfl
        have HRD := Lib.hid hrd
        have hcs' : (cap = s) = False := by simp; omega
        clear hrd
        go_enter Tryz.func111, Tryz.ntmps111
        go_wp2_with (first | (go_at_call 110; refine (compact_Take _ _ _ HR.out HB.out).mono ?_; rw [HT.out]; rintro e w' ⟨rfl, rfl⟩; simp only [takeV]) | (go_at_call 103; refine (bytes_Clone _ _ _ HRD.out (by rw [HL.out]; omega)).mono ?_; rintro e w1 ⟨v1, rfl, ho1, hb1, hs1⟩) | fail)
        go_ret3
        exact ⟨hb1, hs1, v1, rfl, ho1⟩

set_option maxHeartbeats 1000000 in
theorem ref_Nums (u : Value) (l : List Int) (w : World) (hl : RdIM w u l) (hll : l.length ≤ 109951162) :
    Calls Tryz.prog 77 #[u] w (OwnRet w.heap.size (Bs (numsL l)) w) := by
  obtain ⟨B, hBe⟩ : ∃ B, B = w.heap.size := ⟨_, rfl⟩
  rw [← hBe]
  have HB := Lib.hid hBe
  have HLn : Hid (RdIM w u l) := Lib.hid hl
  clear hBe
  obtain ⟨ao, cap, rfl⟩ : ∃ ao cap, u = .slice ao l.length cap := by
    rcases hl with ⟨rfl, rfl⟩ | ⟨a, cap, rfl, -⟩
    · exact ⟨_, _, rfl⟩
    · exact ⟨_, _, rfl⟩
  clear hl
  go_enter Tryz.func77, Tryz.ntmps77
  go_wp2_with fail
  go_loopw [3, 4] (fun b' i wr => ∃ j : Nat, j ≤ l.length ∧ i = .int .i64 j ∧ OwnB B b' (Bs (numsL (l.take j))) wr ∧ Below B w wr ∧ B ≤ wr.heap.size) (fun _ i _ => l.length - (intOf i).toNat)
  case atStart => exact ⟨0, Nat.zero_le _, rfl, World.ownsRow_nil _ _ _ _, Below.refl _ _, by rw [HB.out]; exact Nat.le_refl _⟩
  case round =>
    obtain ⟨j, hj, rfl, ho, hb, hs⟩ := hrel
    by_cases hlt : j < l.length
    · obtain ⟨L, hL⟩ : ∃ L, L = numsL (l.take j) := ⟨_, rfl⟩
      have hLl : L.length ≤ 9 * 109951162 := by
        rw [hL]
        have := numsL_length (l.take j)
        have : (l.take j).length ≤ l.length := by simp; omega
        omega
      rw [← hL] at ho
      have R := (show RdIM w _ l from HLn.out)
      obtain ⟨a, cap', ha, hcap, hcell⟩ : ∃ a cap', (Value.slice ao l.length cap) = .slice (some a) l.length cap' ∧ l.length ≤ cap' ∧ ∀ i, i < l.length → w.cell? (a.add i) = some (.int .i64 (l.getD i 0)) := by
        rcases R with ⟨h1, h2⟩ | h
        · rw [h2] at hlt; simp at hlt
        · exact h
      have hcj := hcell j hlt
      have halt := cell_block hcj
      have hsp := World.cell?_spot (hcell 0 (by omega))
      obtain ⟨q, hq⟩ : ∃ q, q = l.getD j 0 := ⟨_, rfl⟩
      rw [← hq] at hcj
      have hnext : numsL (l.take (j + 1)) = L ++ numL (heldN q) := by
        have e : l.take (j + 1) = l.take j ++ [q] := by
          rw [List.take_succ_eq_append_getElem hlt, hq]; simp [hlt]
        rw [e, numsL_snoc, hL]
      have HN := Lib.hid hnext
      clear hcell R hq hnext hL
      injection ha with h1 h2 h3
      subst h1 h3
      obtain ⟨blk, off, spot⟩ := a
      have hspot : spot = none := by simpa [Addr.add] using hsp
      subst hspot
      rw [add_at] at hcj
      have hcx : wr.cell? ⟨blk, off + j, none⟩ = some (.int .i64 q) := (hb.cell (p := ⟨blk, off + j, none⟩) (by rw [HB.out]; exact halt)).trans hcj
      have hnl := numL_length (heldN q)
      clear hcj halt h2 hsp
      go_wp2_with (first | (go_at_call 96; refine (ref_Num _ _).mono ?_; rintro e w1 ⟨v1, rfl, ho1, hb1, hs1⟩; have hr1 := ho1.reads; have ho2 : OwnB B u3 (Bs L) w1 := own_kept ho hb1 hs) | (at_builtin; refine wp_app_B rfl rfl rfl rfl ho2 hr1 (by omega) (Nat.le_trans hs hs1) ?_; intro v3 w3 ho3 hb3 hs3 hg3; rw [← HN.out] at ho3; have hb4 : Below B w w3 := (hb.trans (hb1.mono hs)).trans hb3) | fail)
      exact ⟨⟨j + 1, by omega, by go_num, ho3, hb4, hs3⟩, by simp [intOf]; omega⟩
    · go_wp2
      go_ret
      have : j = l.length := by omega
      subst this
      rw [List.take_length] at ho
      exact ⟨_, rfl, ho, hb, hs⟩

end Go.Proofs.YtcfcfijmfgnpfaaGreatDoor
end

section
namespace Go.Proofs.YtcfcfijmfgnpfaaGreatDoor
end Go.Proofs.YtcfcfijmfgnpfaaGreatDoor
end

section
namespace Go.Proofs.YtcfcfijmfgnpfaaGreatDoor
open Go.RowKit
set_option linter.unusedVariables false
set_option linter.unusedSimpArgs false

theorem Bs_at (l : List Nat) (i : Nat) (h : i < l.length) : (Bs l).toArray[i]? = some (.int .u8 (gt l i : Nat)) := by
  simp [Bs, gt, h]
theorem eqItems_Bs (w : World) (d : Nat) (a b : List Nat) : ∀ is : List Nat, (∀ i ∈ is, i < a.length ∧ i < b.length) →
    (Op.eqItems (d + 1) 5 1 (Bs a).toArray (Bs b).toArray is).run Tryz.prog w = .ok (is.all fun i => gt a i == gt b i) w
  | [], _ => by simp [Op.eqItems]
  | i :: is, h => by
    obtain ⟨ha, hb⟩ := h i (by simp)
    have he : Tryz.prog.plainKey 5 = true := by kernel_rfl
    have p1 := run_part_plain (P := Tryz.prog) w (e := 5) he (xs := (Bs a).toArray) (Bs_at a i ha)
    have p2 := run_part_plain (P := Tryz.prog) w (e := 5) he (xs := (Bs b).toArray) (Bs_at b i hb)
    simp only [Op.eqItems, Nat.mul_one, Sem.run_bind, p1, p2, Result.andThen_ok, run_equalIn_int w d 5 .u8 .u8 _ _ Tryz.underlying5]
    by_cases e : gt a i = gt b i
    · have e1 : ((gt a i : Int) == (gt b i : Int)) = true := by simp [e]
      have e2 : (gt a i == gt b i) = true := by simp [e]
      rw [e1]
      simp only [List.all_cons, e2, Bool.true_and, Bool.not_true, Bool.false_eq_true, if_false]
      exact eqItems_Bs w d a b is fun j hj => h j (by simp [hj])
    · have e1 : ((gt a i : Int) == (gt b i : Int)) = false := by simp; omega
      have e2 : (gt a i == gt b i) = false := by simpa using e
      rw [e1]
      simp [List.all_cons, e2, Sem.run_pure]
theorem all_range_eq (a b : List Nat) (ha : a.length = 32) (hb : b.length = 32) : ((List.range 32).all fun i => gt a i == gt b i) = decide (a = b) := by
  by_cases e : a = b
  · subst e; simp
  · rw [decide_eq_false e]
    cases h : (List.range 32).all fun i => gt a i == gt b i with
    | false => rfl
    | true =>
      refine absurd (ext_gt (by rw [ha, hb]) fun i hi => ?_) e
      rw [List.all_eq_true] at h
      simpa using h i (by simp; omega)
/-- Two digests are one just where their bytes are. -/
theorem run_eql_hash (w : World) (a b : List Nat) (ha : a.length = 32) (hb : b.length = 32) :
    (binOp .eql 41 (.agg (Bs a).toArray) (.agg (Bs b).toArray)).run Tryz.prog w = .ok (.bool (decide (a = b))) w := by
  rw [run_eql_struct, show (10000 : Nat) = 9998 + 1 + 1 from rfl, run_equalIn_array (i := (Tryz.prog.info? 5).getD default) w (9998 + 1) (e := 5) (n := 32) _ _ Tryz.underlying41 (by kernel_rfl)]
  rw [show Tryz.prog.cellsOf 5 = 1 from by kernel_rfl, eqItems_Bs w 9998 a b _ (by simp; omega), all_range_eq a b ha hb]
  rfl
theorem run_neq_hash (w : World) (a b : List Nat) (ha : a.length = 32) (hb : b.length = 32) :
    (binOp .neq 41 (.agg (Bs a).toArray) (.agg (Bs b).toArray)).run Tryz.prog w = .ok (.bool (!decide (a = b))) w := by
  rw [run_neq_struct, show (10000 : Nat) = 9998 + 1 + 1 from rfl, run_equalIn_array (i := (Tryz.prog.info? 5).getD default) w (9998 + 1) (e := 5) (n := 32) _ _ Tryz.underlying41 (by kernel_rfl)]
  rw [show Tryz.prog.cellsOf 5 = 1 from by kernel_rfl, eqItems_Bs w 9998 a b _ (by simp; omega), all_range_eq a b ha hb]
  rfl
end Go.Proofs.YtcfcfijmfgnpfaaGreatDoor
end

section
namespace Go.Proofs.YtcfcfijmfgnpfaaGreatDoor
open Go.RowKit
set_option linter.unusedVariables false
set_option linter.unusedSimpArgs false

def exHd (l : List Int) (h : l.length = 7) : Ex := exWith exZero l h
theorem extEq_zero (a b c d e f g : Int) (l : List Int) (h : l.length = 7) (h0 : l = [0, 0, 0, 0, 0, 0, 0]) : extEq (exWith (exHd [a, b, c, d, e, f, g] rfl) l h) exZero = true := by subst h0; rfl
theorem rdC0 {k t n : Int} {w : World} : RdC w 1 (.agg #[.int .i64 k, .int .i64 t, .int .i64 n, .slice none 0 0]) (.mk k t n []) :=
  ⟨none, 0, rfl, fun i hi => absurd hi (Nat.not_lt_zero i)⟩
theorem known_ok : okC 3 (.mk 1 0 3 []) = true := by decide +kernel
theorem known_lay : layT (.mk 1 0 3 []) = [4, 0, 12, 0] := by decide +kernel
theorem known_enc (w : World) : Calls Tryz.prog 43 #[.agg #[.int .i64 1, .int .i64 0, .int .i64 3, .slice none 0 0]] w fun e w' => ∃ u, e = .returned (.tuple #[u, .int .i64 0]) ∧ OwnB w.heap.size u (Bs [4, 0, 12, 0]) w' ∧ Below w.heap.size w w' := by
  have h := code_EncodeCall 1 (.mk 1 0 3 []) _ w rdC0
  have e1 : (if okC 3 (.mk 1 0 3 []) then (0 : Int) else 1) = 0 := by rw [known_ok]; rfl
  have e2 : (if okC 3 (.mk 1 0 3 []) then layT (.mk 1 0 3 []) else []) = [4, 0, 12, 0] := by rw [known_ok, known_lay]; rfl
  rw [e1, e2] at h
  exact h
end Go.Proofs.YtcfcfijmfgnpfaaGreatDoor
end

section
namespace Go.Proofs.YtcfcfijmfgnpfaaGreatDoor
open Go.RowKit
set_option linter.unusedVariables false

set_option maxHeartbeats 4000000 in
set_option maxRecDepth 100000 in
theorem blake_mix (blk a b c d x y : Nat) (l : List Nat) (w0 w1 : World) (t : TypeId) (hM : MS t blk w0 l w1) (ha : a < 16) (hb : b < 16) (hc : c < 16) (hd : d < 16) :
    Calls Tryz.prog 144 #[.pointer (some ⟨blk, 0, none⟩), .int .i64 a, .int .i64 b, .int .i64 c, .int .i64 d, .int .u64 x, .int .u64 y] w1 fun e w' => e = .returned (.tuple #[]) ∧ MS t blk w0 (mixL l a b c d x y) w' := by
  have ha' : (a : Int) < 16 := by omega
  have hb' : (b : Int) < 16 := by omega
  have hc' : (c : Int) < 16 := by omega
  have hd' : (d : Int) < 16 := by omega
  obtain ⟨l1, hl1⟩ : ∃ l1, l1 = l := ⟨_, rfl⟩
  rw [← hl1] at hM
  have HL1 := Lib.hid hl1
  have HM1 := Lib.hid hM
  have HA := Lib.hid ha
  have HB := Lib.hid hb
  have HC := Lib.hid hc
  have HD := Lib.hid hd
  clear hM ha hb hc hd hl1
  go_enter Tryz.func144, Tryz.ntmps144
  go_wp2
  obtain ⟨p, q, f, hx, hxl⟩ := HM1.out.facts a b HA.out HB.out
  clear hx hxl
  go_still_tail 15, (by kernel_rfl)
  change wpList _ _ _ _ _ w1.drew
  go_wp2
  clear p q
  obtain ⟨w2, hw⟩ : ∃ w', w' = (w1.setCell ⟨blk, a, none⟩ (.int .u64 (IntKind.u64.wrap (((gt l1 a : Nat) : Int) + IntKind.u64.wrap (((gt l1 b : Nat) : Int) + (x : Int)))))).drew := ⟨_, rfl⟩
  have hm := HM1.out.addS a b x (v := IntKind.u64.wrap (((gt l1 a : Nat) : Int) + IntKind.u64.wrap (((gt l1 b : Nat) : Int) + (x : Int)))) (add3_r _ _ _)
  rw [← hw] at hm ⊢
  obtain ⟨l2, hl⟩ : ∃ l', l' = addS l1 a b x := ⟨_, rfl⟩
  rw [← hl] at hm
  have HL2 := Lib.hid hl
  have HM2 := Lib.hid hm
  clear hw hm hl f HM1
  obtain ⟨p, q, f, hx, hxl⟩ := HM2.out.facts d a HD.out HA.out
  refine wp_region_still_tail 16 (by kernel_rfl) (by kernel_rfl) ?_
  simp only [List.take_succ_cons, List.take_zero, List.drop_succ_cons, List.drop_zero]
  repeat still_step
  still_call (lib_rotate_still _ 32 _ _ rfl hxl (by decide))
  repeat still_step
  refine wpStill_nil ?_
  change wpList _ _ _ _ _ w2.drew
  go_wp2
  clear p q hx hxl
  obtain ⟨w3, hw⟩ : ∃ w', w' = (w2.setCell ⟨blk, d, none⟩ (.int .u64 (rot (gt l2 d ^^^ gt l2 a) 32 : Nat))).drew := ⟨_, rfl⟩
  have hm := HM2.out.rotS d a 32
  rw [← hw] at hm ⊢
  obtain ⟨l3, hl⟩ : ∃ l', l' = rotS l2 d a 32 := ⟨_, rfl⟩
  rw [← hl] at hm
  have HL3 := Lib.hid hl
  have HM3 := Lib.hid hm
  clear hw hm hl f HM2
  obtain ⟨p, q, f, hx, hxl⟩ := HM3.out.facts c d HC.out HD.out
  clear hx hxl
  go_still_tail 13, (by kernel_rfl)
  change wpList _ _ _ _ _ w3.drew
  go_wp2
  clear p q
  obtain ⟨w4, hw⟩ : ∃ w', w' = (w3.setCell ⟨blk, c, none⟩ (.int .u64 (IntKind.u64.wrap (((gt l3 c : Nat) : Int) + ((gt l3 d : Nat) : Int))))).drew := ⟨_, rfl⟩
  have hm := HM3.out.addS c d 0 (v := IntKind.u64.wrap (((gt l3 c : Nat) : Int) + ((gt l3 d : Nat) : Int))) (add2 _ _)
  rw [← hw] at hm ⊢
  obtain ⟨l4, hl⟩ : ∃ l', l' = addS l3 c d 0 := ⟨_, rfl⟩
  rw [← hl] at hm
  have HL4 := Lib.hid hl
  have HM4 := Lib.hid hm
  clear hw hm hl f HM3
  obtain ⟨p, q, f, hx, hxl⟩ := HM4.out.facts b c HB.out HC.out
  refine wp_region_still_tail 16 (by kernel_rfl) (by kernel_rfl) ?_
  simp only [List.take_succ_cons, List.take_zero, List.drop_succ_cons, List.drop_zero]
  repeat still_step
  still_call (lib_rotate_still _ 24 _ _ rfl hxl (by decide))
  repeat still_step
  refine wpStill_nil ?_
  change wpList _ _ _ _ _ w4.drew
  go_wp2
  clear p q hx hxl
  obtain ⟨w5, hw⟩ : ∃ w', w' = (w4.setCell ⟨blk, b, none⟩ (.int .u64 (rot (gt l4 b ^^^ gt l4 c) 24 : Nat))).drew := ⟨_, rfl⟩
  have hm := HM4.out.rotS b c 24
  rw [← hw] at hm ⊢
  obtain ⟨l5, hl⟩ : ∃ l', l' = rotS l4 b c 24 := ⟨_, rfl⟩
  rw [← hl] at hm
  have HL5 := Lib.hid hl
  have HM5 := Lib.hid hm
  clear hw hm hl f HM4
  obtain ⟨p, q, f, hx, hxl⟩ := HM5.out.facts a b HA.out HB.out
  clear hx hxl
  go_still_tail 15, (by kernel_rfl)
  change wpList _ _ _ _ _ w5.drew
  go_wp2
  clear p q
  obtain ⟨w6, hw⟩ : ∃ w', w' = (w5.setCell ⟨blk, a, none⟩ (.int .u64 (IntKind.u64.wrap (((gt l5 a : Nat) : Int) + IntKind.u64.wrap (((gt l5 b : Nat) : Int) + (y : Int)))))).drew := ⟨_, rfl⟩
  have hm := HM5.out.addS a b y (v := IntKind.u64.wrap (((gt l5 a : Nat) : Int) + IntKind.u64.wrap (((gt l5 b : Nat) : Int) + (y : Int)))) (add3_r _ _ _)
  rw [← hw] at hm ⊢
  obtain ⟨l6, hl⟩ : ∃ l', l' = addS l5 a b y := ⟨_, rfl⟩
  rw [← hl] at hm
  have HL6 := Lib.hid hl
  have HM6 := Lib.hid hm
  clear hw hm hl f HM5
  obtain ⟨p, q, f, hx, hxl⟩ := HM6.out.facts d a HD.out HA.out
  refine wp_region_still_tail 16 (by kernel_rfl) (by kernel_rfl) ?_
  simp only [List.take_succ_cons, List.take_zero, List.drop_succ_cons, List.drop_zero]
  repeat still_step
  still_call (lib_rotate_still _ 16 _ _ rfl hxl (by decide))
  repeat still_step
  refine wpStill_nil ?_
  change wpList _ _ _ _ _ w6.drew
  go_wp2
  clear p q hx hxl
  obtain ⟨w7, hw⟩ : ∃ w', w' = (w6.setCell ⟨blk, d, none⟩ (.int .u64 (rot (gt l6 d ^^^ gt l6 a) 16 : Nat))).drew := ⟨_, rfl⟩
  have hm := HM6.out.rotS d a 16
  rw [← hw] at hm ⊢
  obtain ⟨l7, hl⟩ : ∃ l', l' = rotS l6 d a 16 := ⟨_, rfl⟩
  rw [← hl] at hm
  have HL7 := Lib.hid hl
  have HM7 := Lib.hid hm
  clear hw hm hl f HM6
  obtain ⟨p, q, f, hx, hxl⟩ := HM7.out.facts c d HC.out HD.out
  clear hx hxl
  go_still_tail 13, (by kernel_rfl)
  change wpList _ _ _ _ _ w7.drew
  go_wp2
  clear p q
  obtain ⟨w8, hw⟩ : ∃ w', w' = (w7.setCell ⟨blk, c, none⟩ (.int .u64 (IntKind.u64.wrap (((gt l7 c : Nat) : Int) + ((gt l7 d : Nat) : Int))))).drew := ⟨_, rfl⟩
  have hm := HM7.out.addS c d 0 (v := IntKind.u64.wrap (((gt l7 c : Nat) : Int) + ((gt l7 d : Nat) : Int))) (add2 _ _)
  rw [← hw] at hm ⊢
  obtain ⟨l8, hl⟩ : ∃ l', l' = addS l7 c d 0 := ⟨_, rfl⟩
  rw [← hl] at hm
  have HL8 := Lib.hid hl
  have HM8 := Lib.hid hm
  clear hw hm hl f HM7
  obtain ⟨p, q, f, hx, hxl⟩ := HM8.out.facts b c HB.out HC.out
  refine wp_region_still_tail 16 (by kernel_rfl) (by kernel_rfl) ?_
  simp only [List.take_succ_cons, List.take_zero, List.drop_succ_cons, List.drop_zero]
  repeat still_step
  still_call (lib_rotate_still _ 63 _ _ rfl hxl (by decide))
  repeat still_step
  refine wpStill_nil ?_
  change wpList _ _ _ _ _ w8.drew
  go_wp2
  clear p q hx hxl
  obtain ⟨w9, hw⟩ : ∃ w', w' = (w8.setCell ⟨blk, b, none⟩ (.int .u64 (rot (gt l8 b ^^^ gt l8 c) 63 : Nat))).drew := ⟨_, rfl⟩
  have hm := HM8.out.rotS b c 63
  rw [← hw] at hm ⊢
  obtain ⟨l9, hl⟩ : ∃ l', l' = rotS l8 b c 63 := ⟨_, rfl⟩
  rw [← hl] at hm
  have HL9 := Lib.hid hl
  have HM9 := Lib.hid hm
  clear hw hm hl f HM8
  refine bodyPost_end (v := .tuple #[]) (by simp [results, Tryz.results144, go_sem]) rfl ?_
  have e : l9 = mixL l a b c d x y := by rw [HL9.out, HL8.out, HL7.out, HL6.out, HL5.out, HL4.out, HL3.out, HL2.out, HL1.out]; rfl
  exact ⟨rfl, e ▸ HM9.out⟩
end Go.Proofs.YtcfcfijmfgnpfaaGreatDoor
end

section
namespace Go.Proofs.YtcfcfijmfgnpfaaGreatDoor
open Go.RowKit
set_option linter.unusedVariables false
set_option linter.unusedSimpArgs false

section
variable {P : Program} {ops : Array Oper} {rest : List Oper} {o : Oper} {a : Act} {Q : Exit → Act → World → Prop} {w : World}

theorem run_loadAt_row (b : Nat) (ty t : TypeId) (cs : Array Value) (fr : Nat × Nat) (d : TypeDesc) (hh : w.heap[b]? = some (.cells cs t fr)) (hu : P.underlying ty = some d) (hd : (match d with | .struct _ | .array _ _ => true | _ => false) = true) (hi : (P.info? ty).map (·.size) = some cs.size) :
    (Instr.loadAt ty (.pointer (some ⟨b, 0, none⟩))).run P w = .ok (.agg cs) w := by
  simp only [Instr.loadAt, Instr.sureAddr, Sem.run_bind, Sem.run_pure, Result.andThen_ok, run_loadVar_row w b t ty cs fr d hh hu hd hi]
theorem run_storeAt_row (b : Nat) (ty t : TypeId) (old cs : Array Value) (hh : w.heap[b]? = some (.cells old t (0, 0))) (hi : (P.info? ty).map (·.size) = some cs.size) (ho : old.size = cs.size) (h1 : cs.all (·.oneCell') = true) :
    (Instr.storeAt ty (.pointer (some ⟨b, 0, none⟩)) (.agg cs)).run P w = .ok () (w.setRow b cs) := by
  simp only [Instr.storeAt, Instr.sureAddr, Sem.run_bind, Sem.run_pure, Result.andThen_ok, run_storeVar_row w b t ty old cs hh hi ho h1]

theorem wpl_load (b : Nat) (ty t : TypeId) (x : Operand) (cs : Array Value) (fr : Nat × Nat) (d : TypeDesc) (hgd : o.guard = none) (ho : o.op = .load ty x) (hx : a.eval x = .pointer (some ⟨b, 0, none⟩)) (hh : w.heap[b]? = some (.cells cs t fr)) (hu : P.underlying ty = some d)
    (hd : (match d with | .struct _ | .array _ _ => true | _ => false) = true) (hi : (P.info? ty).map (·.size) = some cs.size) (h : wpList P ops Q rest (a.put o.dst (.agg cs)) w) : wpList P ops Q (o :: rest) a w := by
  refine wpList_plain hgd fun K hK => ?_
  unfold Oper.wp execOp
  simp only [ho, hx, Sem.run_bind, Sem.run_pure, run_loadAt_row b ty t cs fr d hh hu hd hi, Result.andThen_ok]
  exact hK _ _ h
theorem wpl_store (b : Nat) (ty t : TypeId) (x y : Operand) (old cs : Array Value) (hgd : o.guard = none) (ho : o.op = .store ty x y) (hx : a.eval x = .pointer (some ⟨b, 0, none⟩)) (hy : a.eval y = .agg cs) (hh : w.heap[b]? = some (.cells old t (0, 0)))
    (hi : (P.info? ty).map (·.size) = some cs.size) (hs : old.size = cs.size) (h1 : cs.all (·.oneCell') = true) (h : wpList P ops Q rest (a.put o.dst undef) (w.setRow b cs)) : wpList P ops Q (o :: rest) a w := by
  refine wpList_plain hgd fun K hK => ?_
  unfold Oper.wp execOp
  simp only [ho, hx, hy, Sem.run_bind, Sem.run_pure, run_storeAt_row b ty t old cs hh hi hs h1, Result.andThen_ok]
  exact hK _ _ h

/-- The one result lies in a row. -/
theorem results_row {fn : Func} {tmps : Array Value} {p : Tmp} {b : Nat} {ty t : TypeId} {cs : Array Value} {fr : Nat × Nat} {d : TypeDesc} (h : fn.results = #[.cell p ty]) (hp : tmps.getD p undef = .pointer (some ⟨b, 0, none⟩)) (hh : w.heap[b]? = some (.cells cs t fr)) (hu : P.underlying ty = some d)
    (hd : (match d with | .struct _ | .array _ _ => true | _ => false) = true) (hi : (P.info? ty).map (·.size) = some cs.size) : (results fn tmps).run P w = .ok (.agg cs) w := by
  have hl := run_loadVar_row w b t ty cs fr d hh hu hd hi
  have hp' : tmps[p]?.getD undef = .pointer (some ⟨b, 0, none⟩) := by simpa using hp
  simp only [results, h]
  simp [Sem.run_bind, Result.andThen, hp', asAddr, hl]
theorem setRow_below {N : Nat} {w0 w : World} {b : Nat} {cs : Array Value} (h : Below N w0 w) (hb : N ≤ b) : Below N w0 (w.setRow b cs) :=
  h.trans ⟨rfl, rfl, rfl, by simp, fun k hk => setRow_other w b k cs (by omega)⟩
end
end Go.Proofs.YtcfcfijmfgnpfaaGreatDoor
end

section
namespace Go.Proofs.YtcfcfijmfgnpfaaGreatDoor
open Go.RowKit
set_option linter.unusedVariables false
set_option linter.unusedSimpArgs false

theorem orderL_len (i : Nat) : (orderL i).length = 16 := by unfold orderL; split <;> rfl

/-- A block that holds just these bytes. -/
structure BBox (t : TypeId) (b : Nat) (l : List Nat) (w : World) : Prop where
  at_ : w.heap[b]? = some (.cells (Bs l).toArray t (0, 0))
theorem BBox.cell {t : TypeId} {b : Nat} {l : List Nat} {w : World} (h : BBox t b l w) {i : Nat} (hi : i < l.length) : w.cell? ⟨b, i, none⟩ = some (.int .u8 (gt l i : Nat)) := by
  simp [World.cell?, h.at_, Bs, hi, gt]

theorem Bs16 (x : List Nat) (h : x.length = 16) : (Bs x).toArray = #[.int .u8 (gt x 0 : Nat), .int .u8 (gt x 1 : Nat), .int .u8 (gt x 2 : Nat), .int .u8 (gt x 3 : Nat), .int .u8 (gt x 4 : Nat), .int .u8 (gt x 5 : Nat), .int .u8 (gt x 6 : Nat), .int .u8 (gt x 7 : Nat), .int .u8 (gt x 8 : Nat), .int .u8 (gt x 9 : Nat), .int .u8 (gt x 10 : Nat), .int .u8 (gt x 11 : Nat), .int .u8 (gt x 12 : Nat), .int .u8 (gt x 13 : Nat), .int .u8 (gt x 14 : Nat), .int .u8 (gt x 15 : Nat)] := by
  match x, h with
  | [a, b, c, d, e, f, g, i, j, k, l, m, n, o, p, q], _ => rfl
/-- What the two tables of the program hold. -/
structure Glob (w : World) : Prop where
  lt : 3 ≤ w.heap.size
  beg : ∃ t, w.heap[0]? = some (.cells (Ws beginL) t (0, 0))
  ord : ∀ i, i < 10 → ∀ j, j < 16 → w.cell? ⟨2, i * 16 + j, none⟩ = some (.int .u8 (gt (orderL i) j : Nat))
theorem Glob.of {w w' : World} (h : Glob w) (hs : w.heap.size ≤ w'.heap.size) (hk : ∀ k, k < 3 → w'.heap[k]? = w.heap[k]?) : Glob w' :=
  ⟨Nat.le_trans h.lt hs, h.beg.imp fun _ e => (hk 0 (by omega)).trans e, fun i hi j hj => (World.cell?_of_block (a := ⟨2, i * 16 + j, none⟩) (hk 2 (by omega))).trans (h.ord i hi j hj)⟩
theorem Glob.below {w w' : World} {N : Nat} (h : Glob w) (hb : Below N w w') (hN : 3 ≤ N) : Glob w' := h.of hb.size (fun k hk => hb.block k (by omega))
theorem Glob.grown {w w' : World} {r : Option Nat} (h : Glob w) (hb : w.grownBy w' r) (hr : ∀ k, r = some k → 3 ≤ k) : Glob w' :=
  h.of hb.size (fun k hk => hb.block k (Nat.lt_of_lt_of_le hk h.lt) (fun e => by have := hr k e.symm; omega))

theorem blake_mix' (blk a b c d x y : Nat) (l : List Nat) (w0 w1 : World) (t : TypeId) (hM : MS t blk w0 l w1) (ha : a < 16) (hb : b < 16) (hc : c < 16) (hd : d < 16) {A B C D : Int} (hA : A = (a : Int)) (hB : B = (b : Int)) (hC : C = (c : Int)) (hD : D = (d : Int)) :
    Calls Tryz.prog 144 #[.pointer (some ⟨blk, 0, none⟩), .int .i64 A, .int .i64 B, .int .i64 C, .int .i64 D, .int .u64 x, .int .u64 y] w1 fun e w' => e = .returned (.tuple #[]) ∧ MS t blk w0 (mixL l a b c d x y) w' := by
  subst hA hB hC hD; exact blake_mix blk a b c d x y l w0 w1 t hM ha hb hc hd

/-- The frame of a round. -/
structure FR (w : World) (vb mb sb : Nat) (m s v : List Nat) (wr : World) : Prop where
  vx : WBox 208 vb v wr
  mx : WBox 208 mb m wr
  sx : BBox 217 sb s wr
  vl : v.length = 16
  ne : mb ≠ vb
  ns : sb ≠ vb
  old : w.grownBy wr (some vb)
theorem WBox.keep' {t : TypeId} {b : Nat} {l : List Nat} {w w' : World} (h : WBox t b l w) (hk : w'.heap[b]? = w.heap[b]?) : WBox t b l w' := ⟨hk.trans h.at_, h.small⟩
theorem FR.upd {w wr w' : World} {vb mb sb : Nat} {m s v v' : List Nat} (f : FR w vb mb sb m s v wr) (hu : Upd vb wr w') (hv : WBox 208 vb v' w') (hl : v'.length = 16) : FR w vb mb sb m s v' w' :=
  ⟨hv, f.mx.keep' (hu.block _ f.ne), ⟨(hu.block _ f.ns).trans f.sx.at_⟩, hl, f.ne, f.ns, ⟨hu.os.trans f.old.os, hu.tape.trans f.old.tape, hu.output.trans f.old.output, by have := f.old.size; rw [hu.size]; exact this, fun k hk hr => (hu.block k (fun e => hr (by rw [e]))).trans (f.old.block k hk hr)⟩⟩
theorem FR.ms {w wr : World} {vb mb sb : Nat} {m s v : List Nat} (f : FR w vb mb sb m s v wr) : MS 208 vb wr v wr.drew := ⟨⟨f.vx.at_, f.vx.small⟩, f.vl, (Upd.refl vb wr).drew⟩

set_option maxHeartbeats 8000000 in
set_option maxRecDepth 100000 in
theorem blake_round (vb mb row : Nat) (v m : List Nat) (w : World) (hG : Glob w) (hv : WBox 208 vb v w) (hm : WBox 208 mb m w) (hvl : v.length = 16) (hml : m.length = 16) (hrow : row < 10) (hne : mb ≠ vb) :
    Calls Tryz.prog 136 #[.pointer (some ⟨vb, 0, none⟩), .pointer (some ⟨mb, 0, none⟩), .int .i64 (row : Nat)] w fun e w' => e = .returned (.tuple #[]) ∧ WBox 208 vb (roundL m (orderL row) v) w' ∧ w.grownBy w' (some vb) := by
  have HML := Lib.hid hml
  have hrow' : (row : Int) < 10 := by omega
  have hvlt := hv.lt
  have hmlt := hm.lt

  have o0 := hG.ord row hrow 0 (by decide)
  have o1 := hG.ord row hrow 1 (by decide)
  have o2 := hG.ord row hrow 2 (by decide)
  have o3 := hG.ord row hrow 3 (by decide)
  have o4 := hG.ord row hrow 4 (by decide)
  have o5 := hG.ord row hrow 5 (by decide)
  have o6 := hG.ord row hrow 6 (by decide)
  have o7 := hG.ord row hrow 7 (by decide)
  have o8 := hG.ord row hrow 8 (by decide)
  have o9 := hG.ord row hrow 9 (by decide)
  have o10 := hG.ord row hrow 10 (by decide)
  have o11 := hG.ord row hrow 11 (by decide)
  have o12 := hG.ord row hrow 12 (by decide)
  have o13 := hG.ord row hrow 13 (by decide)
  have o14 := hG.ord row hrow 14 (by decide)
  have o15 := hG.ord row hrow 15 (by decide)
  simp only [Nat.add_zero] at o0
  have HV := Lib.hid hv
  have HM := Lib.hid hm
  have HVL := Lib.hid hvl
  have HNE := Lib.hid hne
  clear hG hv hm hml hvl hrow hne
  go_enter Tryz.func136, Tryz.ntmps136
  go_wp2

  obtain ⟨wS, hwS⟩ : ∃ wS, wS = w.alloc (.cells (Bs (orderL row)).toArray 217) := ⟨_, rfl⟩
  have hlit : (Bs (orderL row)).toArray = #[.int .u8 (gt (orderL row) 0 : Nat), .int .u8 (gt (orderL row) 1 : Nat), .int .u8 (gt (orderL row) 2 : Nat), .int .u8 (gt (orderL row) 3 : Nat), .int .u8 (gt (orderL row) 4 : Nat), .int .u8 (gt (orderL row) 5 : Nat), .int .u8 (gt (orderL row) 6 : Nat), .int .u8 (gt (orderL row) 7 : Nat), .int .u8 (gt (orderL row) 8 : Nat), .int .u8 (gt (orderL row) 9 : Nat), .int .u8 (gt (orderL row) 10 : Nat), .int .u8 (gt (orderL row) 11 : Nat), .int .u8 (gt (orderL row) 12 : Nat), .int .u8 (gt (orderL row) 13 : Nat), .int .u8 (gt (orderL row) 14 : Nat), .int .u8 (gt (orderL row) 15 : Nat)] := Bs16 _ (orderL_len row)
  rw [← hlit, ← hwS]
  have hF : FR w vb mb w.heap.size m (orderL row) v wS := by
    rw [hwS]
    exact ⟨HV.out.keep' (Below.heap_alloc _ _ _ hvlt), HM.out.keep' (Below.heap_alloc _ _ _ hmlt), ⟨heap_alloc_new w _⟩, HVL.out, HNE.out, by omega, ⟨rfl, rfl, rfl, by simp, fun k hk _ => Below.heap_alloc _ _ _ hk⟩⟩
  obtain ⟨sb, hsb⟩ : ∃ sb, sb = w.heap.size := ⟨_, rfl⟩
  rw [← hsb] at hF ⊢
  have HVC := Lib.hid hF
  clear hF hlit hwS hsb o0 o1 o2 o3 o4 o5 o6 o7 o8 o9 o10 o11 o12 o13 o14 o15 hvlt hmlt
  go_loopw [12] (fun k wr' => ∃ j : Nat, j ≤ 4 ∧ k = .int .i64 j ∧ FR w vb mb sb m (orderL row) (colL m (orderL row) j v) wr') (fun k _ => 4 - (intOf k).toNat)
  case atStart => exact ⟨0, by omega, rfl, HVC.out⟩
  case round =>
    obtain ⟨j, hj, rfl, hF⟩ := hrel
    by_cases hjl : j < 4
    · have hj4 : j = 0 ∨ j = 1 ∨ j = 2 ∨ j = 3 := by omega
      rcases hj4 with rfl | rfl | rfl | rfl
      · have la := orderL_lt row 0
        have lb := orderL_lt row 1
        have hstep : colL m (orderL row) 1 v = mixL (colL m (orderL row) 0 v) 0 4 8 12 (gt m (gt (orderL row) 0)) (gt m (gt (orderL row) 1)) := rfl
        have csa := hF.sx.cell (i := 0) (by rw [orderL_len]; decide)
        have csb := hF.sx.cell (i := 1) (by rw [orderL_len]; decide)
        obtain ⟨ia, hia⟩ : ∃ ia, ia = gt (orderL row) 0 := ⟨_, rfl⟩
        obtain ⟨ib, hib⟩ : ∃ ib, ib = gt (orderL row) 1 := ⟨_, rfl⟩
        rw [← hia] at la hstep csa
        rw [← hib] at lb hstep csb
        obtain ⟨u, hu⟩ : ∃ u, u = colL m (orderL row) 0 v := ⟨_, rfl⟩
        rw [← hu] at hF hstep
        have cma := hF.mx.cell (i := ia) (by rw [HML.out]; exact la)
        have cmb := hF.mx.cell (i := ib) (by rw [HML.out]; exact lb)
        have la' : (ia : Int) < 16 := by omega
        have lb' : (ib : Int) < 16 := by omega
        have w1 : IntKind.i64.wrap 0 = 0 := by decide
        have w2 : IntKind.i64.wrap 0 = 0 := by decide
        have w3 : IntKind.i64.wrap 1 = 1 := by decide
        have HF := Lib.hid hF
        have HST := Lib.hid hstep
        clear hF hstep hu hia hib la lb
        go_wp2
        go_still_tail 25, (by kernel_rfl)
        change wpList _ _ _ _ _ wr.drew
        clear cma cmb csa csb
        go_wp2_with (first | (go_at_call 144; refine (blake_mix' vb 0 4 8 12 (gt m ia) (gt m ib) u wr wr.drew 208 HF.out.ms (by omega) (by omega) (by omega) (by omega) rfl rfl rfl rfl).mono ?_; rintro e wM ⟨rfl, hM⟩) | fail)
        refine ⟨⟨1, by omega, by go_num, ?_⟩, by simp [intOf]⟩
        rw [HST.out]
        exact HF.out.upd hM.upd hM.box hM.len
      · have la := orderL_lt row 2
        have lb := orderL_lt row 3
        have hstep : colL m (orderL row) 2 v = mixL (colL m (orderL row) 1 v) 1 5 9 13 (gt m (gt (orderL row) 2)) (gt m (gt (orderL row) 3)) := rfl
        have csa := hF.sx.cell (i := 2) (by rw [orderL_len]; decide)
        have csb := hF.sx.cell (i := 3) (by rw [orderL_len]; decide)
        obtain ⟨ia, hia⟩ : ∃ ia, ia = gt (orderL row) 2 := ⟨_, rfl⟩
        obtain ⟨ib, hib⟩ : ∃ ib, ib = gt (orderL row) 3 := ⟨_, rfl⟩
        rw [← hia] at la hstep csa
        rw [← hib] at lb hstep csb
        obtain ⟨u, hu⟩ : ∃ u, u = colL m (orderL row) 1 v := ⟨_, rfl⟩
        rw [← hu] at hF hstep
        have cma := hF.mx.cell (i := ia) (by rw [HML.out]; exact la)
        have cmb := hF.mx.cell (i := ib) (by rw [HML.out]; exact lb)
        have la' : (ia : Int) < 16 := by omega
        have lb' : (ib : Int) < 16 := by omega
        have w1 : IntKind.i64.wrap 2 = 2 := by decide
        have w2 : IntKind.i64.wrap 2 = 2 := by decide
        have w3 : IntKind.i64.wrap 3 = 3 := by decide
        have HF := Lib.hid hF
        have HST := Lib.hid hstep
        clear hF hstep hu hia hib la lb
        go_wp2
        go_still_tail 25, (by kernel_rfl)
        change wpList _ _ _ _ _ wr.drew
        clear cma cmb csa csb
        go_wp2_with (first | (go_at_call 144; refine (blake_mix' vb 1 5 9 13 (gt m ia) (gt m ib) u wr wr.drew 208 HF.out.ms (by omega) (by omega) (by omega) (by omega) rfl rfl rfl rfl).mono ?_; rintro e wM ⟨rfl, hM⟩) | fail)
        refine ⟨⟨2, by omega, by go_num, ?_⟩, by simp [intOf]⟩
        rw [HST.out]
        exact HF.out.upd hM.upd hM.box hM.len
      · have la := orderL_lt row 4
        have lb := orderL_lt row 5
        have hstep : colL m (orderL row) 3 v = mixL (colL m (orderL row) 2 v) 2 6 10 14 (gt m (gt (orderL row) 4)) (gt m (gt (orderL row) 5)) := rfl
        have csa := hF.sx.cell (i := 4) (by rw [orderL_len]; decide)
        have csb := hF.sx.cell (i := 5) (by rw [orderL_len]; decide)
        obtain ⟨ia, hia⟩ : ∃ ia, ia = gt (orderL row) 4 := ⟨_, rfl⟩
        obtain ⟨ib, hib⟩ : ∃ ib, ib = gt (orderL row) 5 := ⟨_, rfl⟩
        rw [← hia] at la hstep csa
        rw [← hib] at lb hstep csb
        obtain ⟨u, hu⟩ : ∃ u, u = colL m (orderL row) 2 v := ⟨_, rfl⟩
        rw [← hu] at hF hstep
        have cma := hF.mx.cell (i := ia) (by rw [HML.out]; exact la)
        have cmb := hF.mx.cell (i := ib) (by rw [HML.out]; exact lb)
        have la' : (ia : Int) < 16 := by omega
        have lb' : (ib : Int) < 16 := by omega
        have w1 : IntKind.i64.wrap 4 = 4 := by decide
        have w2 : IntKind.i64.wrap 4 = 4 := by decide
        have w3 : IntKind.i64.wrap 5 = 5 := by decide
        have HF := Lib.hid hF
        have HST := Lib.hid hstep
        clear hF hstep hu hia hib la lb
        go_wp2
        go_still_tail 25, (by kernel_rfl)
        change wpList _ _ _ _ _ wr.drew
        clear cma cmb csa csb
        go_wp2_with (first | (go_at_call 144; refine (blake_mix' vb 2 6 10 14 (gt m ia) (gt m ib) u wr wr.drew 208 HF.out.ms (by omega) (by omega) (by omega) (by omega) rfl rfl rfl rfl).mono ?_; rintro e wM ⟨rfl, hM⟩) | fail)
        refine ⟨⟨3, by omega, by go_num, ?_⟩, by simp [intOf]⟩
        rw [HST.out]
        exact HF.out.upd hM.upd hM.box hM.len
      · have la := orderL_lt row 6
        have lb := orderL_lt row 7
        have hstep : colL m (orderL row) 4 v = mixL (colL m (orderL row) 3 v) 3 7 11 15 (gt m (gt (orderL row) 6)) (gt m (gt (orderL row) 7)) := rfl
        have csa := hF.sx.cell (i := 6) (by rw [orderL_len]; decide)
        have csb := hF.sx.cell (i := 7) (by rw [orderL_len]; decide)
        obtain ⟨ia, hia⟩ : ∃ ia, ia = gt (orderL row) 6 := ⟨_, rfl⟩
        obtain ⟨ib, hib⟩ : ∃ ib, ib = gt (orderL row) 7 := ⟨_, rfl⟩
        rw [← hia] at la hstep csa
        rw [← hib] at lb hstep csb
        obtain ⟨u, hu⟩ : ∃ u, u = colL m (orderL row) 3 v := ⟨_, rfl⟩
        rw [← hu] at hF hstep
        have cma := hF.mx.cell (i := ia) (by rw [HML.out]; exact la)
        have cmb := hF.mx.cell (i := ib) (by rw [HML.out]; exact lb)
        have la' : (ia : Int) < 16 := by omega
        have lb' : (ib : Int) < 16 := by omega
        have w1 : IntKind.i64.wrap 6 = 6 := by decide
        have w2 : IntKind.i64.wrap 6 = 6 := by decide
        have w3 : IntKind.i64.wrap 7 = 7 := by decide
        have HF := Lib.hid hF
        have HST := Lib.hid hstep
        clear hF hstep hu hia hib la lb
        go_wp2
        go_still_tail 25, (by kernel_rfl)
        change wpList _ _ _ _ _ wr.drew
        clear cma cmb csa csb
        go_wp2_with (first | (go_at_call 144; refine (blake_mix' vb 3 7 11 15 (gt m ia) (gt m ib) u wr wr.drew 208 HF.out.ms (by omega) (by omega) (by omega) (by omega) rfl rfl rfl rfl).mono ?_; rintro e wM ⟨rfl, hM⟩) | fail)
        refine ⟨⟨4, by omega, by go_num, ?_⟩, by simp [intOf]⟩
        rw [HST.out]
        exact HF.out.upd hM.upd hM.box hM.len
    · have hj4 : j = 4 := by omega
      subst hj4
      rw [show ((4 : Nat) : Int) = 4 from rfl]
      obtain ⟨c4, hc4⟩ : ∃ c4, c4 = colL m (orderL row) 4 v := ⟨_, rfl⟩
      rw [← hc4] at hF
      have HC4 := Lib.hid hc4
      have HVD := Lib.hid hF
      clear hF hc4
      go_wp2
      go_loopw [42] (fun k wr' => ∃ j : Nat, j ≤ 4 ∧ k = .int .i64 j ∧ FR w vb mb sb m (orderL row) (diaL m (orderL row) j c4) wr') (fun k _ => 4 - (intOf k).toNat)
      case atStart => exact ⟨0, by omega, rfl, HVD.out⟩
      case round =>
        obtain ⟨j, hj, rfl, hF⟩ := hrel
        by_cases hjl : j < 4
        · have hj4 : j = 0 ∨ j = 1 ∨ j = 2 ∨ j = 3 := by omega
          rcases hj4 with rfl | rfl | rfl | rfl
          · have la := orderL_lt row 8
            have lb := orderL_lt row 9
            have hstep : diaL m (orderL row) 1 c4 = mixL (diaL m (orderL row) 0 c4) 0 5 10 15 (gt m (gt (orderL row) 8)) (gt m (gt (orderL row) 9)) := rfl
            have csa := hF.sx.cell (i := 8) (by rw [orderL_len]; decide)
            have csb := hF.sx.cell (i := 9) (by rw [orderL_len]; decide)
            obtain ⟨ia, hia⟩ : ∃ ia, ia = gt (orderL row) 8 := ⟨_, rfl⟩
            obtain ⟨ib, hib⟩ : ∃ ib, ib = gt (orderL row) 9 := ⟨_, rfl⟩
            rw [← hia] at la hstep csa
            rw [← hib] at lb hstep csb
            obtain ⟨u, hu⟩ : ∃ u, u = diaL m (orderL row) 0 c4 := ⟨_, rfl⟩
            rw [← hu] at hF hstep
            have cma := hF.mx.cell (i := ia) (by rw [HML.out]; exact la)
            have cmb := hF.mx.cell (i := ib) (by rw [HML.out]; exact lb)
            have la' : (ia : Int) < 16 := by omega
            have lb' : (ib : Int) < 16 := by omega
            have w1 : IntKind.i64.wrap 0 = 0 := by decide
            have w2 : IntKind.i64.wrap 8 = 8 := by decide
            have w3 : IntKind.i64.wrap 9 = 9 := by decide
            have HF := Lib.hid hF
            have HST := Lib.hid hstep
            clear hF hstep hu hia hib la lb
            go_wp2
            go_still_tail 32, (by kernel_rfl)
            change wpList _ _ _ _ _ wr.drew
            clear cma cmb csa csb
            go_wp2_with (first | (go_at_call 144; refine (blake_mix' vb 0 5 10 15 (gt m ia) (gt m ib) u wr wr.drew 208 HF.out.ms (by omega) (by omega) (by omega) (by omega) rfl rfl rfl rfl).mono ?_; rintro e wM ⟨rfl, hM⟩) | fail)
            refine ⟨⟨1, by omega, by go_num, ?_⟩, by simp [intOf]⟩
            rw [HST.out]
            exact HF.out.upd hM.upd hM.box hM.len
          · have la := orderL_lt row 10
            have lb := orderL_lt row 11
            have hstep : diaL m (orderL row) 2 c4 = mixL (diaL m (orderL row) 1 c4) 1 6 11 12 (gt m (gt (orderL row) 10)) (gt m (gt (orderL row) 11)) := rfl
            have csa := hF.sx.cell (i := 10) (by rw [orderL_len]; decide)
            have csb := hF.sx.cell (i := 11) (by rw [orderL_len]; decide)
            obtain ⟨ia, hia⟩ : ∃ ia, ia = gt (orderL row) 10 := ⟨_, rfl⟩
            obtain ⟨ib, hib⟩ : ∃ ib, ib = gt (orderL row) 11 := ⟨_, rfl⟩
            rw [← hia] at la hstep csa
            rw [← hib] at lb hstep csb
            obtain ⟨u, hu⟩ : ∃ u, u = diaL m (orderL row) 1 c4 := ⟨_, rfl⟩
            rw [← hu] at hF hstep
            have cma := hF.mx.cell (i := ia) (by rw [HML.out]; exact la)
            have cmb := hF.mx.cell (i := ib) (by rw [HML.out]; exact lb)
            have la' : (ia : Int) < 16 := by omega
            have lb' : (ib : Int) < 16 := by omega
            have w1 : IntKind.i64.wrap 2 = 2 := by decide
            have w2 : IntKind.i64.wrap 10 = 10 := by decide
            have w3 : IntKind.i64.wrap 11 = 11 := by decide
            have HF := Lib.hid hF
            have HST := Lib.hid hstep
            clear hF hstep hu hia hib la lb
            go_wp2
            go_still_tail 32, (by kernel_rfl)
            change wpList _ _ _ _ _ wr.drew
            clear cma cmb csa csb
            go_wp2_with (first | (go_at_call 144; refine (blake_mix' vb 1 6 11 12 (gt m ia) (gt m ib) u wr wr.drew 208 HF.out.ms (by omega) (by omega) (by omega) (by omega) rfl rfl rfl rfl).mono ?_; rintro e wM ⟨rfl, hM⟩) | fail)
            refine ⟨⟨2, by omega, by go_num, ?_⟩, by simp [intOf]⟩
            rw [HST.out]
            exact HF.out.upd hM.upd hM.box hM.len
          · have la := orderL_lt row 12
            have lb := orderL_lt row 13
            have hstep : diaL m (orderL row) 3 c4 = mixL (diaL m (orderL row) 2 c4) 2 7 8 13 (gt m (gt (orderL row) 12)) (gt m (gt (orderL row) 13)) := rfl
            have csa := hF.sx.cell (i := 12) (by rw [orderL_len]; decide)
            have csb := hF.sx.cell (i := 13) (by rw [orderL_len]; decide)
            obtain ⟨ia, hia⟩ : ∃ ia, ia = gt (orderL row) 12 := ⟨_, rfl⟩
            obtain ⟨ib, hib⟩ : ∃ ib, ib = gt (orderL row) 13 := ⟨_, rfl⟩
            rw [← hia] at la hstep csa
            rw [← hib] at lb hstep csb
            obtain ⟨u, hu⟩ : ∃ u, u = diaL m (orderL row) 2 c4 := ⟨_, rfl⟩
            rw [← hu] at hF hstep
            have cma := hF.mx.cell (i := ia) (by rw [HML.out]; exact la)
            have cmb := hF.mx.cell (i := ib) (by rw [HML.out]; exact lb)
            have la' : (ia : Int) < 16 := by omega
            have lb' : (ib : Int) < 16 := by omega
            have w1 : IntKind.i64.wrap 4 = 4 := by decide
            have w2 : IntKind.i64.wrap 12 = 12 := by decide
            have w3 : IntKind.i64.wrap 13 = 13 := by decide
            have HF := Lib.hid hF
            have HST := Lib.hid hstep
            clear hF hstep hu hia hib la lb
            go_wp2
            go_still_tail 32, (by kernel_rfl)
            change wpList _ _ _ _ _ wr.drew
            clear cma cmb csa csb
            go_wp2_with (first | (go_at_call 144; refine (blake_mix' vb 2 7 8 13 (gt m ia) (gt m ib) u wr wr.drew 208 HF.out.ms (by omega) (by omega) (by omega) (by omega) rfl rfl rfl rfl).mono ?_; rintro e wM ⟨rfl, hM⟩) | fail)
            refine ⟨⟨3, by omega, by go_num, ?_⟩, by simp [intOf]⟩
            rw [HST.out]
            exact HF.out.upd hM.upd hM.box hM.len
          · have la := orderL_lt row 14
            have lb := orderL_lt row 15
            have hstep : diaL m (orderL row) 4 c4 = mixL (diaL m (orderL row) 3 c4) 3 4 9 14 (gt m (gt (orderL row) 14)) (gt m (gt (orderL row) 15)) := rfl
            have csa := hF.sx.cell (i := 14) (by rw [orderL_len]; decide)
            have csb := hF.sx.cell (i := 15) (by rw [orderL_len]; decide)
            obtain ⟨ia, hia⟩ : ∃ ia, ia = gt (orderL row) 14 := ⟨_, rfl⟩
            obtain ⟨ib, hib⟩ : ∃ ib, ib = gt (orderL row) 15 := ⟨_, rfl⟩
            rw [← hia] at la hstep csa
            rw [← hib] at lb hstep csb
            obtain ⟨u, hu⟩ : ∃ u, u = diaL m (orderL row) 3 c4 := ⟨_, rfl⟩
            rw [← hu] at hF hstep
            have cma := hF.mx.cell (i := ia) (by rw [HML.out]; exact la)
            have cmb := hF.mx.cell (i := ib) (by rw [HML.out]; exact lb)
            have la' : (ia : Int) < 16 := by omega
            have lb' : (ib : Int) < 16 := by omega
            have w1 : IntKind.i64.wrap 6 = 6 := by decide
            have w2 : IntKind.i64.wrap 14 = 14 := by decide
            have w3 : IntKind.i64.wrap 15 = 15 := by decide
            have HF := Lib.hid hF
            have HST := Lib.hid hstep
            clear hF hstep hu hia hib la lb
            go_wp2
            go_still_tail 32, (by kernel_rfl)
            change wpList _ _ _ _ _ wr.drew
            clear cma cmb csa csb
            go_wp2_with (first | (go_at_call 144; refine (blake_mix' vb 3 4 9 14 (gt m ia) (gt m ib) u wr wr.drew 208 HF.out.ms (by omega) (by omega) (by omega) (by omega) rfl rfl rfl rfl).mono ?_; rintro e wM ⟨rfl, hM⟩) | fail)
            refine ⟨⟨4, by omega, by go_num, ?_⟩, by simp [intOf]⟩
            rw [HST.out]
            exact HF.out.upd hM.upd hM.box hM.len
        · have hj4 : j = 4 := by omega
          subst hj4
          rw [show ((4 : Nat) : Int) = 4 from rfl]
          have HF := Lib.hid hF
          clear hF
          go_wp2
          refine bodyPost_end (v := .tuple #[]) (by simp [results, Tryz.results136, go_sem]) rfl ⟨rfl, ?_, HF.out.old⟩
          have := HF.out.vx
          rw [HC4.out] at this
          exact this
end Go.Proofs.YtcfcfijmfgnpfaaGreatDoor
end

section
namespace Go.Proofs.YtcfcfijmfgnpfaaGreatDoor
open Go.RowKit
set_option linter.unusedVariables false

def digitN (c : Nat) : Nat := if 97 ≤ c then c - 97 + 10 else c - 48
theorem ref_digit (c : Nat) (w : World) (hc : 48 ≤ c) (hc2 : c < 256) :
    Calls Tryz.prog 99 #[.int .u8 (c : Nat)] w fun e w' => e = .returned (.int .i64 (digitN c : Nat)) ∧ w' = w := by
  by_cases h : 97 ≤ c
  · have e : ((digitN c : Nat) : Int) = (c : Int) - 97 + 10 := by unfold digitN; rw [if_pos h]; omega
    rw [e]; clear e
    go_enter Tryz.func99, Tryz.ntmps99
    go_wp2
    go_ret
    exact ⟨rfl, rfl⟩
  · have e : ((digitN c : Nat) : Int) = (c : Int) - 48 := by unfold digitN; rw [if_neg h]; omega
    rw [e]; clear e
    go_enter Tryz.func99, Tryz.ntmps99
    go_wp2
    go_ret
    exact ⟨rfl, rfl⟩

def orderS : Nat → ByteArray
  | 0 => ⟨#[48, 49, 50, 51, 52, 53, 54, 55, 56, 57, 97, 98, 99, 100, 101, 102]⟩
  | 1 => ⟨#[101, 97, 52, 56, 57, 102, 100, 54, 49, 99, 48, 50, 98, 55, 53, 51]⟩
  | 2 => ⟨#[98, 56, 99, 48, 53, 50, 102, 100, 97, 101, 51, 54, 55, 49, 57, 52]⟩
  | 3 => ⟨#[55, 57, 51, 49, 100, 99, 98, 101, 50, 54, 53, 97, 52, 48, 102, 56]⟩
  | 4 => ⟨#[57, 48, 53, 55, 50, 52, 97, 102, 101, 49, 98, 99, 54, 56, 51, 100]⟩
  | 5 => ⟨#[50, 99, 54, 97, 48, 98, 56, 51, 52, 100, 55, 53, 102, 101, 49, 57]⟩
  | 6 => ⟨#[99, 53, 49, 102, 101, 100, 52, 97, 48, 55, 54, 51, 57, 50, 56, 98]⟩
  | 7 => ⟨#[100, 98, 55, 101, 99, 49, 51, 57, 53, 48, 102, 52, 56, 54, 50, 97]⟩
  | 8 => ⟨#[54, 102, 101, 57, 98, 51, 48, 56, 99, 50, 100, 55, 49, 52, 97, 53]⟩
  | _ => ⟨#[97, 50, 56, 52, 55, 54, 49, 53, 102, 98, 57, 101, 51, 99, 100, 48]⟩

theorem ref_order (i : Nat) (w : World) (hi : i < 12) :
    Calls Tryz.prog 97 #[.int .i64 (i : Nat)] w fun e w' => e = .returned (.string (orderS (i % 10))) ∧ w' = w := by
  have h : i = 0 ∨ i = 1 ∨ i = 2 ∨ i = 3 ∨ i = 4 ∨ i = 5 ∨ i = 6 ∨ i = 7 ∨ i = 8 ∨ i = 9 ∨ i = 10 ∨ i = 11 := by omega
  rcases h with rfl | rfl | rfl | rfl | rfl | rfl | rfl | rfl | rfl | rfl | rfl | rfl
  all_goals
    go_enter Tryz.func97, Tryz.ntmps97
    go_wp2
    go_ret
    exact ⟨rfl, rfl⟩

theorem order_at (i j : Nat) (hi : i < 10) (hj : j < 16) : ∃ c : UInt8, (orderS i)[j]? = some c ∧ 48 ≤ c.toNat ∧ c.toNat < 256 ∧ digitN c.toNat = gt (orderL i) j := by
  have h : ∀ i, i < 10 → ∀ j, j < 16 → ((orderS i)[j]?).any (fun c => decide (48 ≤ c.toNat) && decide (digitN c.toNat = gt (orderL i) j)) = true := by decide +kernel
  have := h i hi j hj
  rw [Option.any_eq_true] at this
  obtain ⟨c, h1, h2⟩ := this
  simp only [Bool.and_eq_true, decide_eq_true_eq] at h2
  exact ⟨c, h1, h2.1, c.toNat_lt, h2.2⟩

theorem order_size (i : Nat) : (orderS i).size = 16 := by unfold orderS; split <;> rfl
theorem order_get (i j : Nat) (hi : i < 10) (hj : j < 16) {os : ByteArray} (hos : os = orderS i) : ∃ (h : j < os.size) (c : Nat), (os[j]'h).toNat = c ∧ 48 ≤ c ∧ c < 256 ∧ digitN c = gt (orderL i) j := by
  subst hos
  have h : j < (orderS i).size := by rw [order_size]; exact hj
  obtain ⟨c, h1, h2, h3, h4⟩ := order_at i j hi hj
  have e : (orderS i)[j]'h = c := by
    have := getElem?_pos (orderS i) j h
    rw [this] at h1
    exact Option.some.inj h1
  exact ⟨h, _, by rw [e], h2, h3, h4⟩

abbrev vec8 (l : List Nat) : Value := .agg (Ws l)
abbrev beginV : Value := .agg #[.int .u64 7640891576956012808, .int .u64 13503953896175478587, .int .u64 4354685564936845355, .int .u64 11912009170470909681, .int .u64 5840696475078001361, .int .u64 11170449401992604703, .int .u64 2270897969802886507, .int .u64 6620516959819538809]
theorem ref_begin (w : World) :
    Calls Tryz.prog 79 #[] w fun e w' => e = .returned beginV ∧ Below w.heap.size w w' := by
  go_enter Tryz.func79, Tryz.ntmps79
  go_wp2
  refine bodyPost_ret (v := beginV) (by simp [results, Tryz.results79, go_sem]) rfl ⟨rfl, ?_⟩
  exact (Below.refl _ _).alloc (Nat.le_refl _) _
end Go.Proofs.YtcfcfijmfgnpfaaGreatDoor
end

section
namespace Go.Proofs.YtcfcfijmfgnpfaaGreatDoor
open Go.RowKit
set_option linter.unusedVariables false

set_option maxHeartbeats 4000000 in
set_option maxRecDepth 100000 in
theorem ref_mix (blk a b c d x y : Nat) (l : List Nat) (w0 w1 : World) (t : TypeId) (hM : MS t blk w0 l w1) (ha : a < 16) (hb : b < 16) (hc : c < 16) (hd : d < 16) :
    Calls Tryz.prog 98 #[.pointer (some ⟨blk, 0, none⟩), .int .i64 a, .int .i64 b, .int .i64 c, .int .i64 d, .int .u64 x, .int .u64 y] w1 fun e w' => e = .returned (.tuple #[]) ∧ MS t blk w0 (mixL l a b c d x y) w' := by
  have ha' : (a : Int) < 16 := by omega
  have hb' : (b : Int) < 16 := by omega
  have hc' : (c : Int) < 16 := by omega
  have hd' : (d : Int) < 16 := by omega
  obtain ⟨l1, hl1⟩ : ∃ l1, l1 = l := ⟨_, rfl⟩
  rw [← hl1] at hM
  have HL1 := Lib.hid hl1
  have HM1 := Lib.hid hM
  have HA := Lib.hid ha
  have HB := Lib.hid hb
  have HC := Lib.hid hc
  have HD := Lib.hid hd
  clear hM ha hb hc hd hl1
  go_enter Tryz.func98, Tryz.ntmps98
  go_wp2
  obtain ⟨p, q, f, hx, hxl⟩ := HM1.out.facts a b HA.out HB.out
  clear hx hxl
  go_still_tail 17, (by kernel_rfl)
  change wpList _ _ _ _ _ w1.drew
  go_wp2
  clear p q
  obtain ⟨w2, hw⟩ : ∃ w', w' = (w1.setCell ⟨blk, a, none⟩ (.int .u64 (IntKind.u64.wrap (IntKind.u64.wrap (((gt l1 a : Nat) : Int) + ((gt l1 b : Nat) : Int)) + (x : Int))))).drew := ⟨_, rfl⟩
  have hm := HM1.out.addS a b x (v := IntKind.u64.wrap (IntKind.u64.wrap (((gt l1 a : Nat) : Int) + ((gt l1 b : Nat) : Int)) + (x : Int))) (add3_l _ _ _)
  rw [← hw] at hm ⊢
  obtain ⟨l2, hl⟩ : ∃ l', l' = addS l1 a b x := ⟨_, rfl⟩
  rw [← hl] at hm
  have HL2 := Lib.hid hl
  have HM2 := Lib.hid hm
  clear hw hm hl f HM1
  obtain ⟨p, q, f, hx, hxl⟩ := HM2.out.facts d a HD.out HA.out
  refine wp_region_still_tail 16 (by kernel_rfl) (by kernel_rfl) ?_
  simp only [List.take_succ_cons, List.take_zero, List.drop_succ_cons, List.drop_zero]
  repeat still_step
  still_call (ref_turned_still _ 32 _ rfl rfl hxl (by decide))
  repeat still_step
  refine wpStill_nil ?_
  change wpList _ _ _ _ _ w2.drew
  go_wp2
  clear p q hx hxl
  obtain ⟨w3, hw⟩ : ∃ w', w' = (w2.setCell ⟨blk, d, none⟩ (.int .u64 (rot (gt l2 d ^^^ gt l2 a) 32 : Nat))).drew := ⟨_, rfl⟩
  have hm := HM2.out.rotS d a 32
  rw [← hw] at hm ⊢
  obtain ⟨l3, hl⟩ : ∃ l', l' = rotS l2 d a 32 := ⟨_, rfl⟩
  rw [← hl] at hm
  have HL3 := Lib.hid hl
  have HM3 := Lib.hid hm
  clear hw hm hl f HM2
  obtain ⟨p, q, f, hx, hxl⟩ := HM3.out.facts c d HC.out HD.out
  clear hx hxl
  go_still_tail 15, (by kernel_rfl)
  change wpList _ _ _ _ _ w3.drew
  go_wp2
  clear p q
  obtain ⟨w4, hw⟩ : ∃ w', w' = (w3.setCell ⟨blk, c, none⟩ (.int .u64 (IntKind.u64.wrap (((gt l3 c : Nat) : Int) + ((gt l3 d : Nat) : Int))))).drew := ⟨_, rfl⟩
  have hm := HM3.out.addS c d 0 (v := IntKind.u64.wrap (((gt l3 c : Nat) : Int) + ((gt l3 d : Nat) : Int))) (add2 _ _)
  rw [← hw] at hm ⊢
  obtain ⟨l4, hl⟩ : ∃ l', l' = addS l3 c d 0 := ⟨_, rfl⟩
  rw [← hl] at hm
  have HL4 := Lib.hid hl
  have HM4 := Lib.hid hm
  clear hw hm hl f HM3
  obtain ⟨p, q, f, hx, hxl⟩ := HM4.out.facts b c HB.out HC.out
  refine wp_region_still_tail 16 (by kernel_rfl) (by kernel_rfl) ?_
  simp only [List.take_succ_cons, List.take_zero, List.drop_succ_cons, List.drop_zero]
  repeat still_step
  still_call (ref_turned_still _ 24 _ rfl rfl hxl (by decide))
  repeat still_step
  refine wpStill_nil ?_
  change wpList _ _ _ _ _ w4.drew
  go_wp2
  clear p q hx hxl
  obtain ⟨w5, hw⟩ : ∃ w', w' = (w4.setCell ⟨blk, b, none⟩ (.int .u64 (rot (gt l4 b ^^^ gt l4 c) 24 : Nat))).drew := ⟨_, rfl⟩
  have hm := HM4.out.rotS b c 24
  rw [← hw] at hm ⊢
  obtain ⟨l5, hl⟩ : ∃ l', l' = rotS l4 b c 24 := ⟨_, rfl⟩
  rw [← hl] at hm
  have HL5 := Lib.hid hl
  have HM5 := Lib.hid hm
  clear hw hm hl f HM4
  obtain ⟨p, q, f, hx, hxl⟩ := HM5.out.facts a b HA.out HB.out
  clear hx hxl
  go_still_tail 17, (by kernel_rfl)
  change wpList _ _ _ _ _ w5.drew
  go_wp2
  clear p q
  obtain ⟨w6, hw⟩ : ∃ w', w' = (w5.setCell ⟨blk, a, none⟩ (.int .u64 (IntKind.u64.wrap (IntKind.u64.wrap (((gt l5 a : Nat) : Int) + ((gt l5 b : Nat) : Int)) + (y : Int))))).drew := ⟨_, rfl⟩
  have hm := HM5.out.addS a b y (v := IntKind.u64.wrap (IntKind.u64.wrap (((gt l5 a : Nat) : Int) + ((gt l5 b : Nat) : Int)) + (y : Int))) (add3_l _ _ _)
  rw [← hw] at hm ⊢
  obtain ⟨l6, hl⟩ : ∃ l', l' = addS l5 a b y := ⟨_, rfl⟩
  rw [← hl] at hm
  have HL6 := Lib.hid hl
  have HM6 := Lib.hid hm
  clear hw hm hl f HM5
  obtain ⟨p, q, f, hx, hxl⟩ := HM6.out.facts d a HD.out HA.out
  refine wp_region_still_tail 16 (by kernel_rfl) (by kernel_rfl) ?_
  simp only [List.take_succ_cons, List.take_zero, List.drop_succ_cons, List.drop_zero]
  repeat still_step
  still_call (ref_turned_still _ 16 _ rfl rfl hxl (by decide))
  repeat still_step
  refine wpStill_nil ?_
  change wpList _ _ _ _ _ w6.drew
  go_wp2
  clear p q hx hxl
  obtain ⟨w7, hw⟩ : ∃ w', w' = (w6.setCell ⟨blk, d, none⟩ (.int .u64 (rot (gt l6 d ^^^ gt l6 a) 16 : Nat))).drew := ⟨_, rfl⟩
  have hm := HM6.out.rotS d a 16
  rw [← hw] at hm ⊢
  obtain ⟨l7, hl⟩ : ∃ l', l' = rotS l6 d a 16 := ⟨_, rfl⟩
  rw [← hl] at hm
  have HL7 := Lib.hid hl
  have HM7 := Lib.hid hm
  clear hw hm hl f HM6
  obtain ⟨p, q, f, hx, hxl⟩ := HM7.out.facts c d HC.out HD.out
  clear hx hxl
  go_still_tail 15, (by kernel_rfl)
  change wpList _ _ _ _ _ w7.drew
  go_wp2
  clear p q
  obtain ⟨w8, hw⟩ : ∃ w', w' = (w7.setCell ⟨blk, c, none⟩ (.int .u64 (IntKind.u64.wrap (((gt l7 c : Nat) : Int) + ((gt l7 d : Nat) : Int))))).drew := ⟨_, rfl⟩
  have hm := HM7.out.addS c d 0 (v := IntKind.u64.wrap (((gt l7 c : Nat) : Int) + ((gt l7 d : Nat) : Int))) (add2 _ _)
  rw [← hw] at hm ⊢
  obtain ⟨l8, hl⟩ : ∃ l', l' = addS l7 c d 0 := ⟨_, rfl⟩
  rw [← hl] at hm
  have HL8 := Lib.hid hl
  have HM8 := Lib.hid hm
  clear hw hm hl f HM7
  obtain ⟨p, q, f, hx, hxl⟩ := HM8.out.facts b c HB.out HC.out
  refine wp_region_still_tail 16 (by kernel_rfl) (by kernel_rfl) ?_
  simp only [List.take_succ_cons, List.take_zero, List.drop_succ_cons, List.drop_zero]
  repeat still_step
  still_call (ref_turned_still _ 63 _ rfl rfl hxl (by decide))
  repeat still_step
  refine wpStill_nil ?_
  change wpList _ _ _ _ _ w8.drew
  go_wp2
  clear p q hx hxl
  obtain ⟨w9, hw⟩ : ∃ w', w' = (w8.setCell ⟨blk, b, none⟩ (.int .u64 (rot (gt l8 b ^^^ gt l8 c) 63 : Nat))).drew := ⟨_, rfl⟩
  have hm := HM8.out.rotS b c 63
  rw [← hw] at hm ⊢
  obtain ⟨l9, hl⟩ : ∃ l', l' = rotS l8 b c 63 := ⟨_, rfl⟩
  rw [← hl] at hm
  have HL9 := Lib.hid hl
  have HM9 := Lib.hid hm
  clear hw hm hl f HM8
  refine bodyPost_end (v := .tuple #[]) (by simp [results, Tryz.results98, go_sem]) rfl ?_
  have e : l9 = mixL l a b c d x y := by rw [HL9.out, HL8.out, HL7.out, HL6.out, HL5.out, HL4.out, HL3.out, HL2.out, HL1.out]; rfl
  exact ⟨rfl, e ▸ HM9.out⟩
end Go.Proofs.YtcfcfijmfgnpfaaGreatDoor
end
