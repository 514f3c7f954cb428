/-
  lay: the bytes of a call.
-/
import Derived.Test.YtbndegkgpoemnaaTre
import Derived.Test.YtbndegkgpoemnaaCodB
import Derived.Deep.RegionHeld3
import Derived.Deep.DeepCutAuto
import Derived.Deep.WholeRow
namespace Go.Proofs.Ytbndegkgpoemnaa
open Go.RowKit
set_option linter.unusedVariables false
set_option linter.unusedSimpArgs false

theorem box_cellM (W : World) (m : Int) : (W.alloc (.cells #[.int .i64 m] 3)).cell? ⟨W.heap.size, 0, none⟩ = some (.int .i64 m) := by
  rw [World.cell?, World.alloc_heap_new]; rfl
theorem box_cellD (W : World) (m : Int) : (W.alloc (.cells #[.int .i64 m] 3)).drew.cell? ⟨W.heap.size, 0, none⟩ = some (.int .i64 m) := box_cellM W m
theorem box_lt (W : World) (o : Obj) : W.heap.size < (W.alloc o).drew.heap.size := by show W.heap.size < (W.alloc o).heap.size; simp
theorem app_oldM {N ub : Nat} {v2 : Value} {l : List Int} {m : Int} {a w2 : World} {A : Nat} (ho : OwnN N v2 l w2) (hc : w2.cell? ⟨ub, 0, none⟩ = some (.int .i64 m)) (hl : l.length ≤ 1000) (hN : N ≤ w2.heap.size) (hb : Below A a w2) (hA : A ≤ N) :
    ∃ v5 w5, (appI #[v2, .slice (some ⟨ub, 0, none⟩) 1 1]).run Try.prog w2 = .ok v5 w5 ∧ OwnN N v5 (l ++ [m]) w5 ∧ Below A a w5 := by
  obtain ⟨v5, w5, h1, h2, h3, -⟩ := run_appI ho hc hl hN
  exact ⟨v5, w5, h1, h2, hb.grown h3 (by omega) (fun k hk => Nat.le_trans hA (ho.block hk).1)⟩
theorem app_newM {N : Nat} {v2 : Value} {l : List Int} {m : Int} {a w2 : World} {A : Nat} (ho : OwnN N v2 l w2) (hl : l.length ≤ 1000) (hN : N ≤ w2.heap.size) (hb : Below A a w2) (hA : A ≤ N) :
    ∃ v5 w5, (appI #[v2, .slice (some ⟨w2.heap.size, 0, none⟩) 1 1]).run Try.prog (w2.alloc (.cells #[.int .i64 m] 3)) = .ok v5 w5 ∧ OwnN N v5 (l ++ [m]) w5 ∧ Below A a w5 :=
  app_oldM (ho.of (Nat.le_refl _) (fun k hk => Below.heap_alloc _ _ _ (ho.block hk).2)) (box_cellM w2 m) hl (by simp; omega) (hb.alloc (by omega) _) hA
theorem app_midM {v2 : Value} {l : List Int} {m : Int} {a w1 w2 : World} {A : Nat} (hq : Below (w1.alloc (.cells #[.int .i64 m] 3)).heap.size (w1.alloc (.cells #[.int .i64 m] 3)) w2) (ho : OwnN (w1.alloc (.cells #[.int .i64 m] 3)).heap.size v2 l w2) (hl : l.length ≤ 1000) (hb : Below A a w2) (hA : A ≤ w1.heap.size) :
    ∃ v5 w5, (appI #[v2, .slice (some ⟨w1.heap.size, 0, none⟩) 1 1]).run Try.prog w2 = .ok v5 w5 ∧ OwnN A v5 (l ++ [m]) w5 ∧ Below A a w5 := by
  obtain ⟨v5, w5, h1, h2, h3⟩ := app_oldM ho ((World.cell?_of_block (a := ⟨w1.heap.size, 0, none⟩) (hq.block w1.heap.size (by simp))).trans (box_cellM w1 m)) hl hq.size hb (by simp; omega)
  exact ⟨v5, w5, h1, h2.of (by simp; omega) (fun _ _ => rfl), h3⟩
theorem own3 {B : Nat} {v : Value} {k t n : Int} {w : World} (h : OwnN B v [k, t, n] w) : ∃ ao cap, v = .slice ao 3 cap := h.lenOf
theorem reads4 {B : Nat} {v : Value} {k t n m : Int} {w : World} (h : OwnN B v ([k, t, n] ++ [m]) w) : RdI w v [k, t, n, m] := h.readsI
theorem put4 {v : Value} {k t n m : Int} {w : World} (h : RdI w v [k, t, n, m]) : Calls Try.prog 27 #[.slice none 0 0, v] w (OwnRet w.heap.size (Bs (numsL [k, t, n, m])) w) :=
  compact_Put _ v [] [k, t, n, m] w (.inl ⟨rfl, rfl⟩) h (by simp) (by simp)
theorem sizeC : (Try.prog.info? 28).map (·.size) = some 4 := by kernel_rfl
theorem wpl_loadC {w : World} {ops : Array Oper} {rest : List Oper} {o : Oper} {a : Act} {Q : Exit → Act → World → Prop} {b k : Nat} {vs : List Value} (x : Operand) (hgd : o.guard = none) (ho : o.op = .load 28 x) (hx : a.eval x = .pointer (some ⟨b, k, none⟩)) (hr : w.rangeAt b k vs) (hl : vs.length = 4)
    (h : wpList Try.prog ops Q rest (a.put o.dst (.agg vs.toArray)) w) : wpList Try.prog ops Q (o :: rest) a w :=
  wpList_load_mid hgd 28 x ho b k hx vs _ hr Try.underlying28 rfl (by rw [hl]; exact sizeC) h
theorem rangeAt_new {w : World} {T : TypeId} (cs : List Value) : (w.alloc (.cells cs.toArray T)).rangeAt w.heap.size 0 cs := fun j u hj => by
  have h := World.alloc_heap_new w (.cells cs.toArray T)
  rw [Nat.zero_add, World.cell?, h]; simpa using hj
theorem rdBB_oneC {w : World} {v : Value} {x : List Nat} {T : TypeId} (h : RdB w v x) : RdBB (w.alloc (.cells #[v] T)) (.slice (some ⟨w.heap.size, 0, none⟩) 1 1) [x] := by
  refine .inr ⟨⟨w.heap.size, 0, none⟩, 1, rfl, Nat.le_refl _, fun i hi => ?_⟩
  obtain rfl : i = 0 := by simpa using hi
  refine ⟨v, ?_, h.below ((Below.refl _ w).alloc (Nat.le_refl _) _)⟩
  show (w.alloc (.cells #[v] T)).cell? ⟨w.heap.size, 0 + 0, none⟩ = some v
  rw [World.cell?, World.alloc_heap_new]; rfl
attribute [local go_sem ↓] append_hide
set_option maxHeartbeats 4000000 in
set_option maxRecDepth 100000 in
theorem code_lay (d : Nat) : ∀ (c : Cl) (v : Value) (w : World), (layT c).length ≤ 100000 → RdC w d v c → Calls Try.prog 31 #[v] w (OwnRet w.heap.size (Bs (layT c)) w) := by
  induction d with
  | zero => intro c v w _ h; exact h.elim
  | succ d ih =>
  intro c v w hlen hrd
  obtain ⟨d', ao, cap, hd, rfl, hkids⟩ := hrd.open
  obtain rfl : d' = d := by omega
  rw [layT_eq] at hlen ⊢
  obtain ⟨k, hk⟩ : ∃ k, k = c.k := ⟨_, rfl⟩
  obtain ⟨t, ht⟩ : ∃ t, t = c.t := ⟨_, rfl⟩
  obtain ⟨n, hn⟩ : ∃ n, n = c.n := ⟨_, rfl⟩
  obtain ⟨l, hl⟩ : ∃ l, l = c.kids := ⟨_, rfl⟩
  rw [← hk, ← ht, ← hn, ← hl] at hlen ⊢
  rw [← hl] at hkids
  obtain ⟨m, hm⟩ : ∃ m, m = l.length := ⟨_, rfl⟩
  rw [← hm] at hlen ⊢
  have hml : m ≤ 100000 := by have := kids_len l; rw [List.length_append] at hlen; omega
  have HKD := Lib.hid hkids
  have HM := Lib.hid hm
  have HLEN := Lib.hid hlen
  have IH := Lib.hid ih
  clear hk ht hn hl hrd hkids hm hlen ih hd
  go_enter Try.func31, Try.ntmps31
  obtain ⟨W, hW⟩ : ∃ W, W = w.alloc (.cells #[.int .i64 k, .int .i64 t, .int .i64 n, .slice ao m cap] 28) := ⟨_, rfl⟩
  have h1 := World.alloc_heap_new w (.cells #[.int .i64 k, .int .i64 t, .int .i64 n, .slice ao m cap] 28)
  rw [← hW] at h1
  have hs : W.heap.size = w.heap.size + 1 := by rw [hW]; simp
  have hB : Below w.heap.size w W := by rw [hW]; exact (Below.refl _ w).alloc (Nat.le_refl _) _
  obtain ⟨cb, hcb⟩ : ∃ cb, cb = w.heap.size := ⟨_, rfl⟩
  rw [← hcb] at h1
  have hc3 : W.cell? ⟨cb, 3, none⟩ = some (.slice ao m cap) := by rw [World.cell?, h1]; rfl
  go_upto_region 1 with fail
  rw [← hW, ← hcb]
  have HB := Lib.hid hB
  have HCB := Lib.hid hcb
  go_cut [3] (fun v wx => OwnB W.heap.size v (Bs (numsL [k, t, n, m])) wx ∧ Below W.heap.size W wx)
  case first =>
    have dw : W.drew.heap = W.heap := rfl
    have H1 := Lib.hid h1
    have LCB := Lib.hid (show cb < W.heap.size from (Array.getElem?_eq_some_iff.1 h1).1)
    have BD := Lib.hid (Below.refl W.heap.size W).drew
    have BA := Lib.hid (((Below.refl W.heap.size W).alloc (Nat.le_refl _) (.cells #[.int .i64 (m : Int)] 3)).drew)
    have HC3 := Lib.hid hc3
    clear hW hcb h1 dw hs hB hc3
    go_region_held3 (fun wc => wc.cell? ⟨cb, 3, none⟩ = some (.slice ao m cap)) (first | exact HC3.out | exact (World.cell?_of_block (a := ⟨cb, 3, none⟩) (B6.out.block cb LCB.out)).trans HC3.out | exact (World.cell?_of_block (a := ⟨cb, 3, none⟩) (B1.out.block cb LCB.out)).trans HC3.out | exact (World.cell?_of_block (a := ⟨cb, 3, none⟩) ((B1.out.alloc B1.out.size _).block cb LCB.out)).trans HC3.out | exact (World.cell?_of_block (a := ⟨cb, 3, none⟩) (B2.out.block cb LCB.out)).trans HC3.out | exact (World.cell?_of_block (a := ⟨cb, 3, none⟩) ((B2.out.alloc B2.out.size _).block cb LCB.out)).trans HC3.out | exact (World.cell?_of_block (a := ⟨cb, 3, none⟩) (B5.out.block cb LCB.out)).trans HC3.out | exact (World.cell?_of_block (a := ⟨cb, 3, none⟩) ((B5.out.alloc B5.out.size _).block cb LCB.out)).trans HC3.out | exact (World.cell?_of_block (a := ⟨cb, 3, none⟩) (BD.out.block cb LCB.out)).trans HC3.out | exact (World.cell?_of_block (a := ⟨cb, 3, none⟩) ((BD.out.alloc BD.out.size _).block cb LCB.out)).trans HC3.out | exact (World.cell?_of_block (a := ⟨cb, 3, none⟩) (BA.out.block cb LCB.out)).trans HC3.out | exact (World.cell?_of_block (a := ⟨cb, 3, none⟩) ((BA.out.alloc BA.out.size _).block cb LCB.out)).trans HC3.out) (first
      | (go_at_call 60; with_reducible refine (code_callFields cb 0 W.drew).mono ?_; rintro e w1 ⟨x1, y1, rfl, hb, hx, hr, l1, l2⟩; have B1 := Lib.hid (BD.out.trans (hb.mono BD.out.size)); have X1 := Lib.hid hx; have R1 := Lib.hid hr; have L1 := Lib.hid l1; have M1 := Lib.hid l2; clear hb hx hr l1 l2; have G1 := Lib.hid ((B1.out.block cb LCB.out).trans H1.out))
      | (go_at_call 60; with_reducible refine (code_callFields cb 0 (W.alloc (.cells #[.int .i64 (m : Int)] 3)).drew).mono ?_; rintro e w1 ⟨x1, y1, rfl, hb, hx, hr, l1, l2⟩; have B1 := Lib.hid (BA.out.trans (hb.mono BA.out.size)); have XB := Lib.hid ((World.cell?_of_block (a := ⟨W.heap.size, 0, none⟩) (hb.block W.heap.size (box_lt W _))).trans (box_cellD W m)); have SZ1 := Lib.hid (show W.heap.size < w1.heap.size from Nat.lt_of_lt_of_le (box_lt W _) hb.size); have X1 := Lib.hid hx; have R1 := Lib.hid hr; have L1 := Lib.hid l1; have M1 := Lib.hid l2; clear hb hx hr l1 l2; have G1 := Lib.hid ((B1.out.block cb LCB.out).trans H1.out))
      | (go_at_call 28; with_reducible refine (numbers_alloc X1.out L1.out M1.out R1.out G1.out).mono ?_; rintro e w2 ⟨v2, rfl, ho, hb⟩; obtain ⟨ao2, cap2, rfl⟩ := own3 ho; have B2 := Lib.hid ((B1.out.alloc B1.out.size _).trans (hb.mono (B1.out.alloc B1.out.size _).size)); obtain ⟨v5, w5, E5, o5, b5⟩ := app_midM hb ho (by simp) B2.out B1.out.size; have O5 := Lib.hid o5; have B5 := Lib.hid b5; clear o5 b5 hb ho)
      | (go_at_call 28; revert XB; intro XB; with_reducible refine (numbers_at X1.out L1.out M1.out R1.out G1.out).mono ?_; rintro e w2 ⟨v2, rfl, ho, hb⟩; obtain ⟨ao2, cap2, rfl⟩ := own3 ho; have B2 := Lib.hid (B1.out.trans (hb.mono B1.out.size)); obtain ⟨v5, w5, E5, o5, b5⟩ := app_oldM ho ((World.cell?_of_block (a := ⟨W.heap.size, 0, none⟩) (hb.block W.heap.size SZ1.out)).trans XB.out) (by simp) hb.size B2.out B1.out.size; have O5 := Lib.hid o5; have B5 := Lib.hid b5; clear o5 b5 hb ho)
      | (go_at_call 28; with_reducible refine (numbers_at X1.out L1.out M1.out R1.out G1.out).mono ?_; rintro e w2 ⟨v2, rfl, ho, hb⟩; obtain ⟨ao2, cap2, rfl⟩ := own3 ho; have B2 := Lib.hid (B1.out.trans (hb.mono B1.out.size)); obtain ⟨v5, w5, E5, o5, b5⟩ := app_newM (m := m) ho (by simp) hb.size B2.out B1.out.size; have O5 := Lib.hid o5; have B5 := Lib.hid b5; clear o5 b5 hb ho)
      | (go_at_call 27; refine (put4 (reads4 O5.out)).mono ?_; rintro e w6 ⟨v6, rfl, ho6, hb6, -⟩; have O6 := Lib.hid (OwnB.ofC ho6 B5.out.size (fun _ _ => rfl)); have B6 := Lib.hid (B5.out.trans (hb6.mono B5.out.size)); clear ho6 hb6)
      | fail)
    all_goals go_wp2_with fail
    all_goals go_meet
    all_goals exact ⟨O6.out, B6.out⟩
  case rest =>
    obtain ⟨ho0, hb0⟩ := hcut
    have HR0 := Lib.hid (And.intro ho0 hb0)
    have hc3' : wc.cell? ⟨cb, 3, none⟩ = some (.slice ao m cap) := (World.cell?_of_block (a := ⟨cb, 3, none⟩) (hb0.block cb (Array.getElem?_eq_some_iff.1 h1).1)).trans hc3
    clear ho0 hb0 hc3 h1 hs hB hW hcb
    go_wp2_with fail
    go_loopw [3, 5, 17] (fun b p i wr => ∃ j : Nat, j ≤ m ∧ i = .int .i64 j ∧ OwnB W.heap.size b (Bs (numsL [k, t, n, m] ++ laysT (l.take j))) wr ∧ Below W.heap.size W wr) (fun _ _ i _ => m - (intOf i).toNat)
    case atStart => exact ⟨0, by omega, rfl, by rw [List.take_zero]; simpa [laysT] using HR0.out.1, HR0.out.2⟩
    case round =>
      obtain ⟨j, hj, rfl, ho, hb⟩ := hrel
      have HR := Lib.hid (And.intro ho hb)
      have HRB := Lib.hid ho.reads
      clear ho hb HR0 hc3'
      by_cases hlt : j < m
      · have hlt' : (j : Int) < m := by omega
        have hjl : j < l.length := by rw [← HM.out]; exact hlt
        obtain ⟨kb, ko, vs, rfl, hkb, hrg, hrd⟩ := HKD.out j hjl
        obtain ⟨kd, hkd⟩ : ∃ kd, kd = l[j] := ⟨_, rfl⟩
        rw [← hkd] at hrd
        have hW2 := HR.out.2
        have hrg2 : wr.rangeAt kb (ko + j * 4) vs := rangeAt_keep hrg ((hW2.block kb (by have := HB.out.size; omega)).trans (HB.out.block kb hkb))
        have hrd2 : RdC wr d' (.agg vs.toArray) kd := RdC.below (hW2.mono HB.out.size |> HB.out.trans) hrd
        obtain ⟨a4, c4, e4⟩ := hrd.cells
        obtain ⟨c1, c2, c3, c5, e5⟩ : ∃ c1 c2 c3 c5, vs = [.int .i64 c1, .int .i64 c2, .int .i64 c3, .slice a4 c5 c4] := ⟨_, _, _, _, e4⟩
        clear e4
        subst e5
        have hLK : (layT kd).length ≤ (laysT l).length := by rw [hkd]; exact layT_kid hjl
        have hLT := laysT_length l j
        have hLE := HLEN.out
        rw [List.length_append] at hLE
        have htk : laysT (l.take (j + 1)) = laysT (l.take j) ++ rowL (layT kd) := by rw [laysT_take l hjl, hkd]
        obtain ⟨W3, hW3⟩ : ∃ W3, W3 = wr.alloc (.cells #[.int .i64 c1, .int .i64 c2, .int .i64 c3, .slice a4 c5 c4] 28) := ⟨_, rfl⟩
        have hb3 : Below wr.heap.size wr W3 := by rw [hW3]; exact (Below.refl _ wr).alloc (Nat.le_refl _) _
        have hrg3 : W3.rangeAt wr.heap.size 0 [.int .i64 c1, .int .i64 c2, .int .i64 c3, .slice a4 c5 c4] := by rw [hW3]; exact rangeAt_new _
        have hcall := IH.out kd _ W3 (by omega) (RdC.below hb3 hrd2)
        have hrow : (numsL [k, t, n, m] ++ laysT (l.take j)).length + bulkL [layT kd] ≤ 1000000000 := by rw [List.length_append]; simp only [bulkL]; omega
        have hRow : numsL [k, t, n, m] ++ laysT (l.take j) ++ rowsL [layT kd] = numsL [k, t, n, m] ++ laysT (l.take (j + 1)) := by rw [htk]; simp [rowsL, List.append_assoc]
        have HRG := Lib.hid hrg2
        have HRG3 := Lib.hid hrg3
        have HC := Lib.hid hcall
        have HW3 := Lib.hid hW3
        have H3 := Lib.hid (hW2.trans (hb3.mono hW2.size))
        have HROW := Lib.hid hrow
        have HROWE := Lib.hid hRow
        have HB3 := Lib.hid hb3
        clear hkb hrg hrd hkd hW2 hrg2 hrd2 hLK hLT hLE htk hb3 hrg3 hcall hrow hRow hW3 hlt hjl
        go_upto_region 5 with (first
          | (refine wpl_loadC _ rfl rfl rfl HRG.out rfl ?_)
          | fail)
        rw [← HW3.out]
        go_wp2_with (first
          | (refine wpl_loadC _ rfl rfl rfl HRG3.out rfl ?_)
          | (go_at_call 31; refine HC.out.mono ?_; rintro e w4 ⟨v4, rfl, ho4, hb4, hs4⟩; obtain ⟨a6, c6, hv6⟩ := ho4.reads.lenOf; obtain ⟨z, hz⟩ : ∃ z, z = (layT kd).length := ⟨_, rfl⟩; rw [← hz] at hv6; subst hv6; have HO4 := Lib.hid (rdBB_oneC (T := 31) ho4.reads); have HB4 := Lib.hid (H3.out.trans (hb4.mono H3.out.size)); have HU4 := Lib.hid (((HRB.out.below HB3.out).below hb4).below (w' := w4.alloc (.cells #[.slice a6 z c6] 31)) ((Below.refl _ w4).alloc (Nat.le_refl _) _)); clear hz ho4 hb4 hs4)
          | (go_at_call 32; refine (compact_Row u3 _ _ [layT kd] _ HU4.out HO4.out HROW.out (by simp [maxLen])).mono ?_; rw [HROWE.out]; rintro e w5 ⟨v5, rfl, ho5, hb5, hs5⟩; have HO5 := Lib.hid (OwnB.ofC ho5 (Nat.le_trans HB4.out.size (by simp)) (fun _ _ => rfl)); have HB5 := Lib.hid ((HB4.out.alloc HB4.out.size _).trans (hb5.mono (HB4.out.alloc HB4.out.size _).size)); clear ho5 hb5 hs5)
          | fail)
        go_roundw
        case rel => exact ⟨j + 1, by omega, by go_num, HO5.out, HB5.out⟩
        case measure => simp [intOf]; omega
      · obtain rfl : j = m := by omega
        have hge : ¬ (j : Int) < j := by omega
        have htk : l.take j = l := List.take_of_length_le (by rw [← HM.out]; exact Nat.le_refl _)
        have HTK := Lib.hid htk
        clear hlt htk hj
        go_wp2_with fail
        go_ret
        have ho := HR.out.1
        rw [HTK.out] at ho
        exact ⟨u3, rfl, ho.ofC HB.out.size (fun _ _ => rfl), HB.out.trans (HR.out.2.mono HB.out.size), Nat.le_trans HB.out.size HR.out.2.size⟩
end Go.Proofs.Ytbndegkgpoemnaa
