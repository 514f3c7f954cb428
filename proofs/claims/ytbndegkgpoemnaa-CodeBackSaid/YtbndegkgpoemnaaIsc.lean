/-
  isCall of any call.
-/
import Derived.Test.YtbndegkgpoemnaaLay
import Derived.Test.YtbndegkgpoemnaaCod3
namespace Go.Proofs.Ytbndegkgpoemnaa
open Go.RowKit
set_option linter.unusedVariables false
set_option linter.unusedSimpArgs false

/-- What a batch's head must keep to. -/
def headOk (c : Cl) : Bool := c.k == 5 && c.t == 0 && c.n == 0 && decide (1 ≤ c.kids.length ∧ c.kids.length ≤ 4)
/-- May a call be, with so many batches within one another? -/
def okC : Nat → Cl → Bool
  | 0, c => decide (leafOk c.k c.t c.n c.kids.length)
  | dp + 1, c => decide (leafOk c.k c.t c.n c.kids.length) || (headOk c && c.kids.all (okC dp))
theorem leafOk_5 {t n : Int} {m : Nat} : ¬ leafOk 5 t n m := by unfold leafOk; omega
def IsC (dp : Nat) : Prop := ∀ (d : Nat) (c : Cl) (v : Value) (w : World), RdC w d v c → Calls Try.prog 54 #[v, .int .i64 dp] w fun e w' => e = .returned (.bool (okC dp c)) ∧ Below w.heap.size w w'
set_option maxRecDepth 100000 in
theorem code_isCall1 {dp : Nat} (hp : dp ≤ 100) (h : IsC dp) (d : Nat) (c : Cl) (v : Value) (w : World) (db : Nat) (hrd : RdC w d v c) (hc : w.cell? ⟨db, 0, none⟩ = some (.int .i64 ((dp : Int) + 1))) :
    Calls Try.prog 72 #[v, .pointer (some ⟨db, 0, none⟩)] w fun e w' => e = .returned (.bool (!okC dp c)) ∧ Below w.heap.size w w' := by
  have hlt := World.block_lt_of_cell? w _ hc
  obtain ⟨d', ao, cap, -, rfl, -⟩ := hrd.open
  obtain ⟨k, hk⟩ : ∃ k, k = c.k := ⟨_, rfl⟩
  obtain ⟨t, ht⟩ : ∃ t, t = c.t := ⟨_, rfl⟩
  obtain ⟨n, hn⟩ : ∃ n, n = c.n := ⟨_, rfl⟩
  obtain ⟨m, hm⟩ : ∃ m, m = c.kids.length := ⟨_, rfl⟩
  rw [← hk, ← ht, ← hn, ← hm] at hrd ⊢
  obtain ⟨W, hW⟩ : ∃ W, W = w.alloc (.cells #[.int .i64 k, .int .i64 t, .int .i64 n, .slice ao m cap] 28) := ⟨_, rfl⟩
  have hB : Below w.heap.size w W := by rw [hW]; exact (Below.refl _ w).alloc (Nat.le_refl _) _
  have hrg : W.rangeAt w.heap.size 0 [.int .i64 k, .int .i64 t, .int .i64 n, .slice ao m cap] := by rw [hW]; exact rangeAt_new _
  have hcW : W.cell? ⟨db, 0, none⟩ = some (.int .i64 ((dp : Int) + 1)) := (World.cell?_of_block (a := ⟨db, 0, none⟩) (hB.block db hlt)).trans hc
  have hcall := h d c _ W (RdC.below hB hrd)
  have hn1 : IntKind.i64.wrap ((dp : Int) + 1 - 1) = dp := by rw [IntWalk.i64_in _ (by omega)]; omega
  have HW := Lib.hid hW
  have HC := Lib.hid hcall
  have HB := Lib.hid hB
  have HRG := Lib.hid hrg
  clear hk ht hn hm hW hB hrg hcall h hrd hc hlt
  go_enter Try.func72, Try.ntmps72
  go_upto_region 1 with fail
  rw [← HW.out]
  go_wp2_with (first
    | (refine wpl_loadC _ rfl rfl rfl HRG.out rfl ?_)
    | (go_at_call 54; refine HC.out.mono ?_; rintro e w1 ⟨rfl, hb⟩; have H1 := Lib.hid (HB.out.trans (hb.mono HB.out.size)); clear hb)
    | fail)
  exact bodyPost_ret (v := .bool (!okC dp c)) (by simp [results, Try.results72, go_sem]) rfl ⟨rfl, H1.out⟩
theorem all_take {l : List Cl} {p : Cl → Bool} {j : Nat} (h : j < l.length) : (l.take (j + 1)).all p = ((l.take j).all p && p l[j]) := by
  rw [List.take_succ_eq_append_getElem h, List.all_append]; simp
theorem all_of_take {l : List Cl} {p : Cl → Bool} {j : Nat} (h : j < l.length) (hp : p l[j] = false) : l.all p = false := by
  rw [Bool.eq_false_iff]
  intro hall
  rw [List.all_eq_true] at hall
  rw [hall _ (List.getElem_mem h)] at hp
  cases hp
set_option maxRecDepth 100000 in
set_option maxHeartbeats 1000000 in
theorem slices_IndexC {dp : Nat} (hp : dp ≤ 100) (h : IsC dp) (d : Nat) (l : List Cl) (ao : Option Addr) (cap : Nat) (w : World) (db : Nat) (hl : l.length ≤ 100) (hrd : RdCs w d ao l) (hc : w.cell? ⟨db, 0, none⟩ = some (.int .i64 ((dp : Int) + 1))) :
    Calls Try.prog 79 #[.slice ao l.length cap, .func (.func 72) #[] #[.pointer (some ⟨db, 0, none⟩)]] w fun e w' => (∃ r : Int, e = .returned (.int .i64 r) ∧ decide (0 ≤ r) = !(l.all (okC dp))) ∧ Below w.heap.size w w' := by
  have hlt := World.block_lt_of_cell? w _ hc
  obtain ⟨m, hm⟩ : ∃ m, m = l.length := ⟨_, rfl⟩
  rw [← hm] at hl ⊢
  have HM := Lib.hid hm
  have HRD := Lib.hid hrd
  have HC := Lib.hid hc
  have HLT := Lib.hid hlt
  have HH := Lib.hid h
  clear hm hrd hc hlt h
  go_enter Try.func79, Try.ntmps79
  go_wp2_with fail
  go_loopw [5, 8] (fun p i wr => ∃ j : Nat, j ≤ m ∧ i = .int .i64 j ∧ (l.take j).all (okC dp) = true ∧ Below w.heap.size w wr) (fun _ i _ => m - (intOf i).toNat)
  case atStart => exact ⟨0, by omega, rfl, rfl, Below.refl _ _⟩
  case round =>
    obtain ⟨j, hj, rfl, hall, hb⟩ := hrel
    have HB := Lib.hid (And.intro hall hb)
    by_cases hlt : j < m
    · have hlt' : (j : Int) < m := by omega
      have hjl : j < l.length := by rw [← HM.out]; exact hlt
      obtain ⟨kb, ko, vs, rfl, hkb, hrg, hrd⟩ := HRD.out j hjl
      have hrg2 : wr.rangeAt kb (ko + j * 4) vs := rangeAt_keep hrg (hb.block kb hkb)
      have hrd2 : RdC wr d (.agg vs.toArray) l[j] := RdC.below hb hrd
      have hat := all_take (p := okC dp) hjl
      have hof := all_of_take (p := okC dp) hjl
      have hc2 : wr.cell? ⟨db, 0, none⟩ = some (.int .i64 ((dp : Int) + 1)) := (World.cell?_of_block (a := ⟨db, 0, none⟩) (hb.block db HLT.out)).trans HC.out
      have hcall := code_isCall1 hp HH.out d l[j] _ wr db hrd2 hc2
      obtain ⟨a4, c4, e4⟩ := hrd2.cells
      obtain ⟨c1, c2, c3, c5, e5⟩ : ∃ c1 c2 c3 c5, vs = [.int .i64 c1, .int .i64 c2, .int .i64 c3, .slice a4 c5 c4] := ⟨_, _, _, _, e4⟩
      clear e4
      subst e5
      obtain ⟨q, hq⟩ : ∃ q, q = okC dp l[j] := ⟨_, rfl⟩
      rw [← hq] at hcall hat hof
      have HCA := Lib.hid hcall
      have HRG := Lib.hid hrg2
      have HA := Lib.hid hat
      have HO := Lib.hid hof
      clear hkb hrg hrd hrg2 hrd2 hat hof hc2 hcall hq hall hb hjl
      cases q
      · go_wp2_with (first
          | (refine wpl_loadC _ rfl rfl rfl HRG.out rfl ?_)
          | (go_at_call 72; refine HCA.out.mono ?_; rintro e w1 ⟨rfl, hb⟩; have H1 := Lib.hid (HB.out.2.trans (hb.mono HB.out.2.size)); clear hb)
          | fail)
        exact bodyPost_ret (v := .int .i64 j) (by simp [results, Try.results79, go_sem]) rfl ⟨⟨j, rfl, by rw [HO.out trivial]; simp⟩, H1.out⟩
      · go_wp2_with (first
          | (refine wpl_loadC _ rfl rfl rfl HRG.out rfl ?_)
          | (go_at_call 72; refine HCA.out.mono ?_; rintro e w1 ⟨rfl, hb⟩; have H1 := Lib.hid (HB.out.2.trans (hb.mono HB.out.2.size)); clear hb)
          | fail)
        go_roundw
        case rel => exact ⟨j + 1, by omega, by go_num, by rw [HA.out, HB.out.1]; rfl, H1.out⟩
        case measure => simp [intOf]; omega
    · obtain rfl : j = m := by omega
      have hge : ¬ (j : Int) < j := by omega
      have htk : l.take j = l := List.take_of_length_le (by rw [← HM.out]; exact Nat.le_refl _)
      rw [htk] at hall
      have HA := Lib.hid hall
      clear hlt htk hj hall hb
      go_wp2_with fail
      exact bodyPost_ret (v := .int .i64 (-1)) (by simp [results, Try.results79, go_sem]) rfl ⟨⟨-1, rfl, by rw [HA.out]; rfl⟩, HB.out.2⟩
set_option maxRecDepth 100000 in
theorem slices_ContainsC {dp : Nat} (hp : dp ≤ 100) (h : IsC dp) (d : Nat) (l : List Cl) (ao : Option Addr) (m cap : Nat) (w : World) (db : Nat) (hm : m = l.length) (hl : m ≤ 100) (hrd : RdCs w d ao l) (hc : w.cell? ⟨db, 0, none⟩ = some (.int .i64 ((dp : Int) + 1))) :
    Calls Try.prog 71 #[.slice ao m cap, .func (.func 72) #[] #[.pointer (some ⟨db, 0, none⟩)]] w fun e w' => e = .returned (.bool (!(l.all (okC dp)))) ∧ Below w.heap.size w w' := by
  subst hm
  have HC := Lib.hid (slices_IndexC hp h d l ao cap w db hl hrd hc)
  clear hrd hc h
  go_enter Try.func71, Try.ntmps71
  go_wp2_with (first
    | (go_at_call 79; refine HC.out.mono ?_; rintro e w1 ⟨⟨r, rfl, hr⟩, hb⟩; have H1 := Lib.hid (And.intro hr hb); clear hr hb)
    | fail)
  exact bodyPost_ret (v := .bool (decide (0 ≤ r))) (by simp [results, Try.results71, go_sem]) rfl ⟨by rw [H1.out.1], H1.out.2⟩
theorem okC_5 {dp : Nat} {c : Cl} (h : c.k = 5) : okC dp c = (match dp with | 0 => false | dp + 1 => headOk c && c.kids.all (okC dp)) := by
  cases dp with
  | zero => simp [okC, h, leafOk_5]
  | succ dp => simp [okC, h, leafOk_5]
theorem okC_n5 {dp : Nat} {c : Cl} (h : c.k ≠ 5) : okC dp c = decide (leafOk c.k c.t c.n c.kids.length) := by
  cases dp with
  | zero => rfl
  | succ dp => simp [okC, headOk, h]
set_option maxRecDepth 100000 in
set_option maxHeartbeats 4000000 in
theorem code_isCall5 (t n dp : Int) (ao : Option Addr) (m cap : Nat) (allb : Bool) (w : World)
    (hC : 0 < dp → m ≤ 4 → ∀ W db, Below w.heap.size w W → W.cell? ⟨db, 0, none⟩ = some (.int .i64 dp) → Calls Try.prog 71 #[.slice ao m cap, .func (.func 72) #[] #[.pointer (some ⟨db, 0, none⟩)]] W fun e w' => e = .returned (.bool (!allb)) ∧ Below W.heap.size W w') :
    Calls Try.prog 54 #[.agg #[.int .i64 5, .int .i64 t, .int .i64 n, .slice ao m cap], .int .i64 dp] w fun e w' => e = .returned (.bool (t == 0 && n == 0 && decide (1 ≤ m ∧ m ≤ 4) && decide (0 < dp) && allb)) ∧ Below w.heap.size w w' := by
  obtain ⟨r, hr⟩ : ∃ r, r = (t == 0 && n == 0 && decide (1 ≤ m ∧ m ≤ 4) && decide (0 < dp) && allb) := ⟨_, rfl⟩
  rw [← hr]
  have HR := Lib.hid hr
  clear hr
  obtain ⟨W, hW⟩ : ∃ W, W = (w.alloc (.cells #[.int .i64 5, .int .i64 t, .int .i64 n, .slice ao m cap] 28)).alloc (.cells #[.int .i64 dp] 3) := ⟨_, rfl⟩
  have hB : Below w.heap.size w W := by rw [hW]; exact ((Below.refl _ w).alloc (Nat.le_refl _) _).alloc (by simp) _
  have h1 := World.alloc_heap_new w (.cells #[.int .i64 5, .int .i64 t, .int .i64 n, .slice ao m cap] 28)
  have g1 : W.heap[w.heap.size]? = some (.cells #[.int .i64 5, .int .i64 t, .int .i64 n, .slice ao m cap] 28 (0, 0)) := by rw [hW]; exact (Below.heap_alloc _ _ _ (by simp)).trans h1
  obtain ⟨cb, hcb⟩ : ∃ cb, cb = w.heap.size := ⟨_, rfl⟩
  obtain ⟨db, hdb⟩ : ∃ db, db = cb + 1 := ⟨_, rfl⟩
  have g2 : W.heap[db]? = some (.cells #[.int .i64 dp] 3 (0, 0)) := by
    have h2 := World.alloc_heap_new (w.alloc (.cells #[.int .i64 5, .int .i64 t, .int .i64 n, .slice ao m cap] 28)) (.cells #[.int .i64 dp] 3)
    rw [World.size_alloc] at h2
    rw [hW, hdb, hcb]; exact h2
  rw [← hcb] at g1
  have a0 : W.cell? ⟨cb, 0, none⟩ = some (.int .i64 5) := by rw [World.cell?, g1]; rfl
  have a1 : W.cell? ⟨cb, 1, none⟩ = some (.int .i64 t) := by rw [World.cell?, g1]; rfl
  have a2 : W.cell? ⟨cb, 2, none⟩ = some (.int .i64 n) := by rw [World.cell?, g1]; rfl
  have a3 : W.cell? ⟨cb, 3, none⟩ = some (.slice ao m cap) := by rw [World.cell?, g1]; rfl
  have b0 : W.cell? ⟨db, 0, none⟩ = some (.int .i64 dp) := by rw [World.cell?, g2]; rfl
  have HB := Lib.hid hB
  have HC := Lib.hid hC
  have HB0 := Lib.hid b0
  clear h1 g1 g2 hB hC
  go_enter Try.func54, Try.ntmps54
  go_upto_region 1 with fail
  rw [← hW, ← hcb, ← hdb]
  clear hW hcb hdb
  by_cases q1 : t = 0
  · have f1 : (t == 0) = true := by simp [q1]
    clear q1
    by_cases q2 : n = 0
    · have f2 : (n == 0) = true := by simp [q2]
      clear q2
      by_cases q3 : 1 ≤ m ∧ m ≤ 4
      · have f3 : decide ((1 : Int) ≤ (m : Int) ∧ (m : Int) ≤ 4) = true := decide_eq_true (by omega)
        have G3 := Lib.hid (show decide (1 ≤ m ∧ m ≤ 4) = true from decide_eq_true q3)
        have Q3 := Lib.hid q3
        clear q3
        by_cases q4 : 0 < dp
        · have f4 : decide (0 < dp) = true := decide_eq_true q4
          have HCC := Lib.hid (HC.out q4 Q3.out.2 W db HB.out HB0.out)
          clear q4
          go_wp2_with (first
            | (go_at_call 43; refine (bound_Within _ _ _ _).mono ?_; rintro e w' ⟨rfl, rfl⟩)
            | (go_at_call 71; refine HCC.out.mono ?_; rintro e w1 ⟨rfl, hb⟩; have H1 := Lib.hid (HB.out.trans (hb.mono HB.out.size)); clear hb)
            | fail)
          exact bodyPost_ret (v := .bool allb) (by simp [results, Try.results54, go_sem]) rfl ⟨by rw [HR.out, f1, f2, G3.out, f4]; simp, H1.out⟩
        · have f4 : decide (0 < dp) = false := decide_eq_false q4
          clear q4
          go_wp2_with (first
            | (go_at_call 43; refine (bound_Within _ _ _ _).mono ?_; rintro e w' ⟨rfl, rfl⟩)
            | fail)
          exact bodyPost_ret (v := .bool false) (by simp [results, Try.results54, go_sem]) rfl ⟨by rw [HR.out, f4]; simp, HB.out⟩
      · have f3 : decide ((1 : Int) ≤ (m : Int) ∧ (m : Int) ≤ 4) = false := decide_eq_false (by omega)
        have G3 := Lib.hid (show decide (1 ≤ m ∧ m ≤ 4) = false from decide_eq_false q3)
        clear q3
        go_wp2_with (first
          | (go_at_call 43; refine (bound_Within _ _ _ _).mono ?_; rintro e w' ⟨rfl, rfl⟩)
          | fail)
        exact bodyPost_ret (v := .bool false) (by simp [results, Try.results54, go_sem]) rfl ⟨by rw [HR.out, G3.out]; simp, HB.out⟩
    · have f2 : (n == 0) = false := by simp [q2]
      clear q2
      go_wp2_with fail
      exact bodyPost_ret (v := .bool false) (by simp [results, Try.results54, go_sem]) rfl ⟨by rw [HR.out, f2]; simp, HB.out⟩
  · have f1 : (t == 0) = false := by simp [q1]
    clear q1
    go_wp2_with fail
    exact bodyPost_ret (v := .bool false) (by simp [results, Try.results54, go_sem]) rfl ⟨by rw [HR.out, f1]; simp, HB.out⟩
theorem code_isCall : ∀ dp : Nat, dp ≤ 100 → IsC dp := by
  intro dp
  induction dp with
  | zero =>
    intro _ d c v w hrd
    obtain ⟨d', ao, cap, -, rfl, hkids⟩ := hrd.open
    by_cases h5 : c.k = 5
    · rw [okC_5 h5, h5]
      refine (code_isCall5 c.t c.n 0 ao c.kids.length cap true w (fun h => absurd h (by decide))).mono ?_
      rintro e w' ⟨he, hb⟩
      exact ⟨by rw [he]; simp, hb⟩
    · rw [okC_n5 h5]
      exact code_isCall0 c.k c.t c.n _ ao c.kids.length cap w h5
  | succ dp ih =>
    intro hp d c v w hrd
    obtain ⟨d', ao, cap, -, rfl, hkids⟩ := hrd.open
    by_cases h5 : c.k = 5
    · rw [okC_5 h5, h5]
      refine (code_isCall5 c.t c.n ((dp + 1 : Nat) : Int) ao c.kids.length cap (c.kids.all (okC dp)) w (fun h0 hm W db hb hc => ?_)).mono ?_
      · exact slices_ContainsC (by omega) (ih (by omega)) d' c.kids ao _ cap W db rfl (by omega) (RdCs.below hkids hb) (by rw [hc]; norm_cast)
      · rintro e w' ⟨he, hb⟩
        refine ⟨?_, hb⟩
        rw [he]
        have h0 : decide ((0 : Int) < ((dp + 1 : Nat) : Int)) = true := decide_eq_true (by omega)
        rw [h0]
        simp [headOk, h5]
    · rw [okC_n5 h5]
      exact code_isCall0 c.k c.t c.n _ ao c.kids.length cap w h5
end Go.Proofs.Ytbndegkgpoemnaa
