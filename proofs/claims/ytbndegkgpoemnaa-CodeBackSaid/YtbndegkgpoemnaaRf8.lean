/-
  The reference's call of a batch; IsCall.
-/
import Derived.Test.YtbndegkgpoemnaaRf7
namespace Go.Proofs.Ytbndegkgpoemnaa
open Go.RowKit
set_option linter.unusedVariables false
set_option linter.unusedSimpArgs false

def kidsOk : Nat → List Cl → Bool
  | 0, _ => false
  | p + 1, l => l.all (okC p)
def RefC (q : Nat) : Prop := ∀ (d : Nat) (c : Cl) (v : Value) (w : World), RdC w d v c → Calls Try.prog 52 #[v, .int .i64 (3 - (q : Int))] w fun e w' => e = .returned (.bool (okC q c)) ∧ Below w.heap.size w w'
set_option maxRecDepth 100000 in
set_option maxHeartbeats 4000000 in
theorem ref_call5 (t n : Int) (q : Nat) (hq : q ≤ 3) (l : List Cl) (d : Nat) (ao : Option Addr) (m cap : Nat) (w : World) (hm : m = l.length) (hrd : RdCs w d ao l)
    (ih : ∀ p, q = p + 1 → RefC p) :
    Calls Try.prog 52 #[.agg #[.int .i64 5, .int .i64 t, .int .i64 n, .slice ao m cap], .int .i64 (3 - (q : Int))] w fun e w' => e = .returned (.bool (t == 0 && n == 0 && decide (1 ≤ m ∧ m ≤ 4) && kidsOk q l)) ∧ Below w.heap.size w w' := by
  obtain ⟨r, hr⟩ : ∃ r, r = (t == 0 && n == 0 && decide (1 ≤ m ∧ m ≤ 4) && kidsOk q l) := ⟨_, rfl⟩
  rw [← hr]
  obtain ⟨W, hW⟩ : ∃ W, W = w.alloc (.cells #[.int .i64 5, .int .i64 t, .int .i64 n, .slice ao m cap] 28) := ⟨_, rfl⟩
  have hB : Below w.heap.size w W := by rw [hW]; exact (Below.refl _ w).alloc (Nat.le_refl _) _
  have g1 := World.alloc_heap_new w (.cells #[.int .i64 5, .int .i64 t, .int .i64 n, .slice ao m cap] 28)
  rw [← hW] at g1
  obtain ⟨cb, hcb⟩ : ∃ cb, cb = w.heap.size := ⟨_, rfl⟩
  rw [← hcb] at g1
  have a0 : W.cell? ⟨cb, 0, none⟩ = some (.int .i64 5) := by rw [World.cell?, g1]; rfl
  have a1 : W.cell? ⟨cb, 1, none⟩ = some (.int .i64 t) := by rw [World.cell?, g1]; rfl
  have a2 : W.cell? ⟨cb, 2, none⟩ = some (.int .i64 n) := by rw [World.cell?, g1]; rfl
  have a3 : W.cell? ⟨cb, 3, none⟩ = some (.slice ao m cap) := by rw [World.cell?, g1]; rfl
  have HB := Lib.hid hB
  have HR := Lib.hid hr
  have HRD := Lib.hid (RdCs.below hrd hB)
  have HCB := Lib.hid (show cb < W.heap.size by rw [hW, hcb]; simp)
  have HM := Lib.hid hm
  have IH := Lib.hid ih
  obtain ⟨dv, hdv⟩ : ∃ dv, dv = 3 - (q : Int) := ⟨_, rfl⟩
  rw [← hdv]
  have HDV := Lib.hid (And.intro hdv hq)
  clear g1 hB hr hrd hm ih
  go_enter Try.func52, Try.ntmps52
  go_upto_region 1 with fail
  rw [← hW, ← hcb]
  clear hW hcb
  by_cases q1 : t = 0
  · have f1 : (t == 0) = true := by simp [q1]
    have g1 : (t != 0) = false := by simp [q1]
    clear q1
    by_cases q2 : n = 0
    · have f2 : (n == 0) = true := by simp [q2]
      have g2 : (n != 0) = false := by simp [q2]
      clear q2
      by_cases q3 : 1 ≤ m ∧ m ≤ 4
      · have f3 : decide ((1 : Int) ≤ (m : Int) ∧ (m : Int) ≤ 4) = true := decide_eq_true (by omega)
        have G3 := Lib.hid (show decide (1 ≤ m ∧ m ≤ 4) = true from decide_eq_true q3)
        have hm4 : m ≤ 4 := q3.2
        clear q3
        by_cases hz : q = 0
        · obtain rfl : dv = 3 := by omega
          have hk0 : kidsOk q l = false := by rw [hz]; rfl
          have HK := Lib.hid hk0
          clear hz hk0
          clear hdv hq
          go_wp2_with (first
            | (go_at_call 46; refine (ref_in _ _ _ _).mono ?_; rintro e w' ⟨rfl, hw⟩; rw [hw]; clear hw w')
            | fail)
          exact bodyPost_ret (v := .bool false) (by simp [results, Try.results52, go_sem]) rfl ⟨by rw [HR.out, HK.out]; simp, HB.out⟩
        · obtain ⟨p, hp⟩ : ∃ p, q = p + 1 := ⟨q - 1, by omega⟩
          have hk0 : kidsOk q l = l.all (okC p) := by rw [hp]; rfl
          have HK := Lib.hid hk0
          have HP := Lib.hid hp
          clear hz hk0
          have f4 : decide (3 ≤ dv) = false := decide_eq_false (by omega)
          have f5 : ¬ 3 ≤ dv := by omega
          have hn1 : IntKind.i64.wrap (dv + 1) = 3 - (p : Int) := by rw [IntWalk.i64_in _ (by omega)]; omega
          have HN1 := Lib.hid hn1
          have HD0 := Lib.hid hdv
          clear hdv hq hn1 hp
          go_wp2_with (first
            | (go_at_call 46; refine (ref_in _ _ _ _).mono ?_; rintro e w' ⟨rfl, hw⟩; rw [hw]; clear hw w')
            | fail)
          go_loopw [5] (fun i wr => ∃ j : Nat, j ≤ m ∧ i = .int .i64 j ∧ (l.take j).all (okC p) = true ∧ Below W.heap.size W wr) (fun i _ => m - (intOf i).toNat)
          case atStart => exact ⟨0, by omega, rfl, rfl, Below.refl _ _⟩
          case round =>
            obtain ⟨j, hj, rfl, hall, hb⟩ := hrel
            have HBW := Lib.hid (And.intro hall hb)
            have b3 : wr.cell? ⟨cb, 3, none⟩ = some (.slice ao m cap) := (World.cell?_of_block (a := ⟨cb, 3, none⟩) (hb.block cb HCB.out)).trans a3
            clear a0 a1 a2 a3
            by_cases hlt : j < m
            · have hlt' : (j : Int) < m := by omega
              have hjl : j < l.length := by rw [← HM.out]; exact hlt
              obtain ⟨kb, ko, vs, rfl, hkb, hrg, hrd⟩ := HRD.out j hjl
              have hrg2 : wr.rangeAt kb (ko + j * 4) vs := rangeAt_keep hrg (hb.block kb hkb)
              have hrd2 : RdC wr d (.agg vs.toArray) l[j] := RdC.below hb hrd
              have hat := all_take (p := okC p) hjl
              have hof := all_of_take (p := okC p) hjl
              have hcall := IH.out p HP.out d l[j] _ wr hrd2
              obtain ⟨a4, c4, e4⟩ := hrd2.cells
              obtain ⟨c1, c2, c3, c5, e5⟩ : ∃ c1 c2 c3 c5, vs = [.int .i64 c1, .int .i64 c2, .int .i64 c3, .slice a4 c5 c4] := ⟨_, _, _, _, e4⟩
              clear e4
              subst e5
              have hn1 := HN1.out
              obtain ⟨dq, hdq⟩ : ∃ dq, dq = 3 - (p : Int) := ⟨_, rfl⟩
              rw [← hdq] at hcall hn1
              obtain ⟨b, hbq⟩ : ∃ b, b = okC p l[j] := ⟨_, rfl⟩
              rw [← hbq] at hcall hat hof
              have HCA := Lib.hid hcall
              have HRG := Lib.hid hrg2
              have HA := Lib.hid hat
              have HO := Lib.hid hof
              clear hkb hrg hrd hrg2 hrd2 hat hof hcall hbq hall hb hjl hdq
              cases b
              · go_wp2_with (first
                  | (refine wpl_loadC _ rfl rfl rfl HRG.out rfl ?_)
                  | (go_at_call 52; refine HCA.out.mono ?_; rintro e w1 ⟨rfl, hb⟩; have H1 := Lib.hid (HBW.out.2.trans (hb.mono HBW.out.2.size)); clear hb)
                  | fail)
                exact bodyPost_ret (v := .bool false) (by simp [results, Try.results52, go_sem]) rfl ⟨by rw [HR.out, HK.out]; simp [HO.out], HB.out.trans (H1.out.mono HB.out.size)⟩
              · go_wp2_with (first
                  | (refine wpl_loadC _ rfl rfl rfl HRG.out rfl ?_)
                  | (go_at_call 52; refine HCA.out.mono ?_; rintro e w1 ⟨rfl, hb⟩; have H1 := Lib.hid (HBW.out.2.trans (hb.mono HBW.out.2.size)); clear hb)
                  | fail)
                go_roundw
                case rel => exact ⟨j + 1, by omega, by go_num, by rw [HA.out, HBW.out.1]; rfl, H1.out⟩
                case measure => simp [intOf]; omega
            · obtain rfl : j = m := by omega
              have hge : ¬ (j : Int) < j := by omega
              have htk : l.take j = l := List.take_of_length_le (by rw [← HM.out]; exact Nat.le_refl _)
              rw [htk] at hall
              have HA := Lib.hid hall
              clear hlt htk hj hall hb
              go_wp2_with fail
              exact bodyPost_ret (v := .bool true) (by simp [results, Try.results52, go_sem]) rfl ⟨by rw [HR.out, HK.out, f1, f2, G3.out, HA.out]; rfl, HB.out.trans (HBW.out.2.mono HB.out.size)⟩
      · have f3 : decide ((1 : Int) ≤ (m : Int) ∧ (m : Int) ≤ 4) = false := decide_eq_false (by omega)
        have G3 := Lib.hid (show decide (1 ≤ m ∧ m ≤ 4) = false from decide_eq_false q3)
        clear q3 hdv hq
        go_wp2_with (first
          | (go_at_call 46; refine (ref_in _ _ _ _).mono ?_; rintro e w' ⟨rfl, hw⟩; rw [hw]; clear hw w')
          | fail)
        exact bodyPost_ret (v := .bool false) (by simp [results, Try.results52, go_sem]) rfl ⟨by rw [HR.out, G3.out]; simp, HB.out⟩
    · have f2 : (n == 0) = false := by simp [q2]
      have g2 : (n != 0) = true := by simp [q2]
      clear q2 hdv hq
      go_wp2_with fail
      exact bodyPost_ret (v := .bool false) (by simp [results, Try.results52, go_sem]) rfl ⟨by rw [HR.out, f2]; simp, HB.out⟩
  · have f1 : (t == 0) = false := by simp [q1]
    have g1 : (t != 0) = true := by simp [q1]
    clear q1 hdv hq
    go_wp2_with fail
    exact bodyPost_ret (v := .bool false) (by simp [results, Try.results52, go_sem]) rfl ⟨by rw [HR.out, f1]; simp, HB.out⟩
theorem okC_5k {q : Nat} {c : Cl} (h : c.k = 5) : okC q c = (c.t == 0 && c.n == 0 && decide (1 ≤ c.kids.length ∧ c.kids.length ≤ 4) && kidsOk q c.kids) := by
  rw [okC_5 h]
  cases q with
  | zero => simp [kidsOk]
  | succ p => simp [headOk, h, kidsOk]
theorem ref_call : ∀ q : Nat, q ≤ 3 → RefC q := by
  intro q
  induction q with
  | zero =>
    intro hq d c v w hrd
    obtain ⟨d', ao, cap, -, rfl, hkids⟩ := hrd.open
    by_cases h5 : c.k = 5
    · rw [okC_5k h5, h5]
      exact ref_call5 c.t c.n 0 hq c.kids d' ao _ cap w rfl hkids (fun p hp => absurd hp (by omega))
    · rw [okC_n5 h5]
      exact ref_call0 c.k c.t c.n _ ao _ cap w h5
  | succ q ih =>
    intro hq d c v w hrd
    obtain ⟨d', ao, cap, -, rfl, hkids⟩ := hrd.open
    by_cases h5 : c.k = 5
    · rw [okC_5k h5, h5]
      exact ref_call5 c.t c.n (q + 1) hq c.kids d' ao _ cap w rfl hkids (fun p hp => by have e : p = q := Nat.succ.inj hp.symm; rw [e]; exact ih (by omega))
    · rw [okC_n5 h5]
      exact ref_call0 c.k c.t c.n _ ao _ cap w h5
set_option maxRecDepth 100000 in
theorem ref_IsCall (d : Nat) (c : Cl) (v : Value) (w : World) (hrd : RdC w d v c) : Calls Try.prog 20 #[v] w fun e w' => e = .returned (.bool (okC 3 c)) ∧ Below w.heap.size w w' := by
  obtain ⟨d', ao, cap, -, rfl, -⟩ := hrd.open
  obtain ⟨k, hk⟩ : ∃ k, k = c.k := ⟨_, rfl⟩
  obtain ⟨t, ht⟩ : ∃ t, t = c.t := ⟨_, rfl⟩
  obtain ⟨n, hn⟩ : ∃ n, n = c.n := ⟨_, rfl⟩
  obtain ⟨m, hm⟩ : ∃ m, m = c.kids.length := ⟨_, rfl⟩
  rw [← hk, ← ht, ← hn, ← hm] at hrd ⊢
  obtain ⟨W, hW⟩ : ∃ W, W = w.alloc (.cells #[.int .i64 k, .int .i64 t, .int .i64 n, .slice ao m cap] 28) := ⟨_, rfl⟩
  have hB : Below w.heap.size w W := by rw [hW]; exact (Below.refl _ w).alloc (Nat.le_refl _) _
  have hrg : W.rangeAt w.heap.size 0 [.int .i64 k, .int .i64 t, .int .i64 n, .slice ao m cap] := by rw [hW]; exact rangeAt_new _
  have hcall := ref_call 3 (by omega) d c _ W (RdC.below hB hrd)
  rw [show (3 : Int) - ((3 : Nat) : Int) = 0 from rfl] at hcall
  have HW := Lib.hid hW
  have HC := Lib.hid hcall
  have HB := Lib.hid hB
  have HRG := Lib.hid hrg
  clear hk ht hn hm hW hB hrg hcall hrd
  go_enter Try.func20, Try.ntmps20
  go_upto_region 1 with fail
  rw [← HW.out]
  go_wp2_with (first
    | (refine wpl_loadC _ rfl rfl rfl HRG.out rfl ?_)
    | (go_at_call 52; refine HC.out.mono ?_; rintro e w1 ⟨rfl, hb⟩; have H1 := Lib.hid (HB.out.trans (hb.mono HB.out.size)); clear hb)
    | fail)
  exact bodyPost_ret (v := .bool (okC 3 c)) (by simp [results, Try.results20, go_sem]) rfl ⟨rfl, H1.out⟩
end Go.Proofs.Ytbndegkgpoemnaa
