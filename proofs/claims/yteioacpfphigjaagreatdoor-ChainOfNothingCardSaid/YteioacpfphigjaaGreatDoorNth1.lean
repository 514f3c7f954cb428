/-
  ChainOfNothing: how large a call is; a nil chain.
-/
import Derived.Test.YteioacpfphigjaaGreatDoorOpX
import Derived.Test.YteioacpfphigjaaGreatDoorMgj
namespace Go.Proofs.YteioacpfphigjaaGreatDoor
open Go.RowKit Go.Maps
set_option linter.unusedVariables false
set_option linter.unusedSimpArgs false

theorem sizeCn : (Tryz.prog.info? 28).map (·.size) = some 4 := by kernel_rfl
theorem wpl_loadCn {w : World} {ops : Array Oper} {rest : List Oper} {o : Oper} {a : Act} {Q : Exit → Act → World → Prop} {b k : Nat} {vs : List Value} (x : Operand) (hgd : o.guard = none) (ho : o.op = .load 28 x) (hx : a.eval x = .pointer (some ⟨b, k, none⟩)) (hr : w.rangeAt b k vs) (hl : vs.length = 4)
    (h : wpList Tryz.prog ops Q rest (a.put o.dst (.agg vs.toArray)) w) : wpList Tryz.prog ops Q (o :: rest) a w :=
  wpList_load_mid hgd 28 x ho b k hx vs _ hr Tryz.underlying28 rfl (by rw [hl]; exact sizeCn) h
theorem sizeEn : (Tryz.prog.info? 30).map (·.size) = some 49 := by kernel_rfl
theorem wpl_loadEn {w : World} {ops : Array Oper} {rest : List Oper} {o : Oper} {a : Act} {Q : Exit → Act → World → Prop} {b k : Nat} {vs : List Value} (x : Operand) (hgd : o.guard = none) (ho : o.op = .load 30 x) (hx : a.eval x = .pointer (some ⟨b, k, none⟩)) (hr : w.rangeAt b k vs) (hl : vs.length = 49)
    (h : wpList Tryz.prog ops Q rest (a.put o.dst (.agg vs.toArray)) w) : wpList Tryz.prog ops Q (o :: rest) a w :=
  wpList_load_mid hgd 30 x ho b k hx vs _ hr Tryz.underlying30 rfl (by rw [hl]; exact sizeEn) h
set_option maxRecDepth 100000 in
set_option maxHeartbeats 4000000 in
theorem law14_size (d : Nat) : ∀ (c : Cl) (v : Value) (w : World), RdC w d v c → LenC c → Calls Tryz.prog 8 #[v] w fun e w' => (∃ r : Int, e = .returned (.int .i64 r)) ∧ Below w.heap.size w w' := by
  induction d with
  | zero => intro c v w h; exact h.elim
  | succ d ih =>
  intro c v w hrd hlen
  obtain ⟨d', ao, cap, hd, rfl, hkids⟩ := hrd.open
  obtain rfl : d' = d := by omega
  obtain ⟨hl1, hl2⟩ := (lenC_iff c).1 hlen
  obtain ⟨k, hk⟩ : ∃ k, k = c.k := ⟨_, rfl⟩
  obtain ⟨t, ht⟩ : ∃ t, t = c.t := ⟨_, rfl⟩
  obtain ⟨n, hn⟩ : ∃ n, n = c.n := ⟨_, rfl⟩
  obtain ⟨l, hl⟩ : ∃ l, l = c.kids := ⟨_, rfl⟩
  rw [← hk, ← ht, ← hn, ← hl]
  rw [← hl] at hkids hl1 hl2
  obtain ⟨m, hm⟩ : ∃ m, m = l.length := ⟨_, rfl⟩
  rw [← hm] at hl1 ⊢
  have hmI : (m : Int) ≤ 9223372036854775807 := Int.le_trans (Int.ofNat_le.2 hl1) (by decide +kernel)
  obtain ⟨W, hW⟩ : ∃ W, W = w.alloc (.cells #[.int .i64 k, .int .i64 t, .int .i64 n, .slice ao m cap] 28) := ⟨_, rfl⟩
  have hB : Below w.heap.size w W := by rw [hW]; exact (Below.refl _ w).alloc (Nat.le_refl _) _
  have g1 := World.alloc_heap_new w (.cells #[.int .i64 k, .int .i64 t, .int .i64 n, .slice ao m cap] 28)
  rw [← hW] at g1
  obtain ⟨cb, hcb⟩ : ∃ cb, cb = w.heap.size := ⟨_, rfl⟩
  rw [← hcb] at g1
  have a3 : W.cell? ⟨cb, 3, none⟩ = some (.slice ao m cap) := by rw [World.cell?, g1]; rfl
  have HRD := Lib.hid (RdCs.below hkids hB)
  have HB := Lib.hid hB
  have HM := Lib.hid (And.intro hm hl2)
  have IH := Lib.hid ih
  have HCB := Lib.hid (show cb < W.heap.size by rw [hW, hcb]; simp)
  clear hk ht hn hl hrd hlen hkids hl1 hl2 hm g1 hB ih hd
  go_enter Tryz.func8, Tryz.ntmps8
  go_upto_region 1 with fail
  rw [← hW, ← hcb]
  clear hW hcb
  go_wp2_with fail
  go_loopw [3, 4] (fun r i wr => ∃ (q : Int) (j : Nat), j ≤ m ∧ r = .int .i64 q ∧ i = .int .i64 j ∧ Below W.heap.size W wr) (fun _ i _ => m - (intOf i).toNat)
  case atStart => exact ⟨_, 0, by omega, rfl, rfl, Below.refl _ _⟩
  case round =>
    obtain ⟨q, j, hj, rfl, rfl, hb⟩ := hrel
    have HBW := Lib.hid hb
    have b3 : wr.cell? ⟨cb, 3, none⟩ = some (.slice ao m cap) := (World.cell?_of_block (a := ⟨cb, 3, none⟩) (hb.block cb HCB.out)).trans a3
    clear a3
    by_cases hin : j < m ∧ q < 300
    · obtain ⟨hlt, hq⟩ := hin
      have hlt' : (j : Int) < m := by omega
      have hjl : j < l.length := by rw [← HM.out.1]; exact hlt
      obtain ⟨kb, ko, vs, rfl, hkb, hrg, hrd⟩ := HRD.out j hjl
      have hrg2 : wr.rangeAt kb (ko + j * 4) vs := rangeAt_keep hrg (hb.block kb hkb)
      have hrd2 : RdC wr d' (.agg vs.toArray) l[j] := RdC.below hb hrd
      have hcall := IH.out l[j] _ wr hrd2 (HM.out.2 _ (List.getElem_mem hjl))
      obtain ⟨a4, c4, e4⟩ := hrd2.cells
      obtain ⟨c1, c2, c3, c5, e5⟩ : ∃ c1 c2 c3 c5, vs = [.int .i64 c1, .int .i64 c2, .int .i64 c3, .slice a4 c5 c4] := ⟨_, _, _, _, e4⟩
      clear e4
      subst e5
      have HCA := Lib.hid hcall
      have HRG := Lib.hid hrg2
      clear hkb hrg hrd hrg2 hrd2 hcall hb hjl
      go_wp2_with (first
        | (refine wpl_loadCn _ rfl rfl rfl HRG.out rfl ?_)
        | (go_at_call 8; refine HCA.out.mono ?_; rintro e w1 ⟨⟨r, rfl⟩, hb⟩; have H1 := Lib.hid (HBW.out.trans (hb.mono HBW.out.size)); clear hb)
        | fail)
      go_roundw
      case rel => exact ⟨_, j + 1, by omega, rfl, by go_num, H1.out⟩
      case measure => simp [intOf]; omega
    · have hex : (¬ (j : Int) < m) ∨ ((j : Int) < m ∧ ¬ q < 300) := by omega
      clear hin hb hj
      rcases hex with h1 | ⟨h1, h2⟩
      all_goals go_wp2_with fail
      all_goals exact bodyPost_ret (v := .int .i64 q) (by simp [results, Tryz.results8, go_sem]) rfl ⟨⟨_, rfl⟩, HB.out.trans (HBW.out.mono HB.out.size)⟩
theorem nil_Now (w : World) : Calls Tryz.prog 11 #[.pointer none] w fun e w' => e = .returned (.int .i64 0) ∧ w' = w := by
  go_enter Tryz.func11, Tryz.ntmps11
  go_wp2_with fail
  exact bodyPost_ret (v := .int .i64 0) (by simp [results, Tryz.results11, go_sem]) rfl ⟨rfl, rfl⟩
theorem nil_Ledger (w : World) : Calls Tryz.prog 12 #[.pointer none] w fun e w' => e = .returned (.pointer none) ∧ w' = w := by
  go_enter Tryz.func12, Tryz.ntmps12
  go_wp2_with fail
  exact bodyPost_ret (v := .pointer none) (by simp [results, Tryz.results12, go_sem]) rfl ⟨rfl, rfl⟩
theorem nil_Voting (w : World) : Calls Tryz.prog 13 #[.pointer none] w fun e w' => e = .returned (.pointer none) ∧ w' = w := by
  go_enter Tryz.func13, Tryz.ntmps13
  go_wp2_with fail
  exact bodyPost_ret (v := .pointer none) (by simp [results, Tryz.results13, go_sem]) rfl ⟨rfl, rfl⟩
theorem nil_Refer (w : World) : Calls Tryz.prog 14 #[.pointer none] w fun e w' => e = .returned (.pointer none) ∧ w' = w := by
  go_enter Tryz.func14, Tryz.ntmps14
  go_wp2_with fail
  exact bodyPost_ret (v := .pointer none) (by simp [results, Tryz.results14, go_sem]) rfl ⟨rfl, rfl⟩
theorem nil_Pre (w : World) : Calls Tryz.prog 15 #[.pointer none] w fun e w' => e = .returned (.pointer none) ∧ w' = w := by
  go_enter Tryz.func15, Tryz.ntmps15
  go_wp2_with fail
  exact bodyPost_ret (v := .pointer none) (by simp [results, Tryz.results15, go_sem]) rfl ⟨rfl, rfl⟩
theorem nil_Agenda (w : World) : Calls Tryz.prog 16 #[.pointer none] w fun e w' => e = .returned (.pointer none) ∧ w' = w := by
  go_enter Tryz.func16, Tryz.ntmps16
  go_wp2_with fail
  exact bodyPost_ret (v := .pointer none) (by simp [results, Tryz.results16, go_sem]) rfl ⟨rfl, rfl⟩
set_option maxRecDepth 100000 in
set_option maxHeartbeats 4000000 in
theorem nil_Apply (x : Array Value) (w : World) : Calls Tryz.prog 9 #[.pointer none, .agg x] w fun e w' => e = .returned (.int .i64 1) ∧ Below w.heap.size w w' := by
  go_enter Tryz.func9, Tryz.ntmps9
  go_wp2_with fail
  exact bodyPost_ret (v := .int .i64 1) (by simp [results, Tryz.results9, go_sem]) rfl ⟨rfl, (Below.refl _ _).alloc (Nat.le_refl _) _⟩
set_option maxRecDepth 100000 in
set_option maxHeartbeats 4000000 in
theorem nil_Block (w : World) : Calls Tryz.prog 10 #[.pointer none] w fun e w' => e = .returned (.slice none 0 0) ∧ Below w.heap.size w w' := by
  go_enter Tryz.func10, Tryz.ntmps10
  go_wp2_with (first
    | (go_at_call 11; refine (nil_Now _).mono ?_; rintro e w1 ⟨rfl, hw⟩; rw [hw]; clear hw w1)
    | (go_at_call 40; refine (bound_Next (by decide) (by decide) _).mono ?_; rintro e w1 ⟨rfl, hw⟩; rw [hw]; clear hw w1)
    | fail)
  exact bodyPost_ret (v := .slice none 0 0) (by simp [results, Tryz.results10, go_sem]) rfl ⟨rfl, (Below.refl _ _).alloc (Nat.le_refl _) _⟩
set_option maxRecDepth 100000 in
set_option maxHeartbeats 4000000 in
theorem chainOfNothing_walk (e : Ex) (c : Cl) (d : Nat) (w : World) (hrd : RdC w d (.agg #[.int .i64 e.ck, .int .i64 e.ct, .int .i64 e.cn, .slice e.ca e.m e.cc]) c) (hlen : LenC c) :
    Calls Tryz.prog 3 #[.agg (ec e).toArray] w fun x w' => x = .returned (.bool true) ∧ Below w.heap.size w w' := by
  obtain ⟨W, hW⟩ : ∃ W, W = w.alloc (.cells (ec e).toArray 30) := ⟨_, rfl⟩
  obtain ⟨cb, hcb⟩ : ∃ cb, cb = w.heap.size := ⟨_, rfl⟩
  have hB : Below w.heap.size w W := by rw [hW]; exact (Below.refl _ w).alloc (Nat.le_refl _) _
  have h0 : W.heap[cb]? = some (.cells (ec e).toArray 30 (0, 0)) := by rw [hW, hcb]; exact World.alloc_heap_new _ _
  have hr : W.rangeAt cb 0 (ec e) := rangeAt_whole h0
  have hr45 : W.rangeAt cb 45 [.int .i64 e.ck, .int .i64 e.ct, .int .i64 e.cn, .slice e.ca e.m e.cc] := fun i v hv => by
    have h1 : (ec e)[45 + i]? = some v := by
      unfold ec
      rw [List.getElem?_append_right (by simp [Is, e.h7]; omega), List.getElem?_append_right (by simp [Is, Bs, e.h7, e.h32]; omega), List.getElem?_append_right (by simp [Is, Bs, vtc, e.h7, e.h32]; omega)]
      rw [← hv]
      have e4 : 45 + i - (Is e.hd).length - (Bs e.sum).length - (vtc e.vote).length = i := by simp [Is, Bs, vtc, e.h7, e.h32]; omega
      rw [e4]; rfl
    have h2 := hr (45 + i) v h1
    rw [show (0 : Nat) + (45 + i) = 45 + i by omega] at h2
    exact h2
  have hsz := law14_size d c _ W (RdC.below hB hrd) hlen
  have HR := Lib.hid hr
  have HR45 := Lib.hid hr45
  have HS := Lib.hid hsz
  have HB := Lib.hid (And.intro hB (show cb < W.heap.size by rw [hW, hcb]; simp))
  clear hrd hlen h0 hr hr45 hsz hB
  go_enter Tryz.func3, Tryz.ntmps3
  go_upto_region 1 with fail
  rw [← hW, ← hcb]
  clear hW hcb
  have hlen : (ec e).length = 49 := ec_len e
  have HLE := Lib.hid hlen
  clear hlen
  go_wp2_with (first
    | (refine wpl_loadCn (vs := [.int .i64 e.ck, .int .i64 e.ct, .int .i64 e.cn, .slice e.ca e.m e.cc]) _ rfl rfl rfl HR45.out rfl ?_)
    | (go_at_call 8; refine HS.out.mono ?_; rintro x w1 ⟨⟨r, rfl⟩, hb⟩; have hr1 : w1.rangeAt cb 0 (ec e) := rangeAt_block HR.out (hb.block cb HB.out.2); have H1 := Lib.hid (And.intro hr1 (HB.out.1.trans (hb.mono HB.out.1.size))); clear hb hr1)
    | (refine wpl_loadEn (vs := ec e) _ rfl rfl rfl H1.out.1 HLE.out ?_)
    | (go_at_call 9; refine (nil_Apply _ _).mono ?_; rintro x w2 ⟨rfl, hb⟩; have H2 := Lib.hid (H1.out.2.trans (hb.mono H1.out.2.size)); clear hb)
    | (go_at_call 10; refine (nil_Block _).mono ?_; rintro x w4 ⟨rfl, hb⟩; have H4 := Lib.hid (H2.out.trans (hb.mono H2.out.size)); clear hb)
    | (go_at_call 11; refine (nil_Now _).mono ?_; rintro x w3 ⟨rfl, hw⟩; rw [hw]; clear hw w3)
    | (go_at_call 12; refine (nil_Ledger _).mono ?_; rintro x w3 ⟨rfl, hw⟩; rw [hw]; clear hw w3)
    | (go_at_call 13; refine (nil_Voting _).mono ?_; rintro x w3 ⟨rfl, hw⟩; rw [hw]; clear hw w3)
    | (go_at_call 14; refine (nil_Refer _).mono ?_; rintro x w3 ⟨rfl, hw⟩; rw [hw]; clear hw w3)
    | (go_at_call 15; refine (nil_Pre _).mono ?_; rintro x w3 ⟨rfl, hw⟩; rw [hw]; clear hw w3)
    | (go_at_call 16; refine (nil_Agenda _).mono ?_; rintro x w3 ⟨rfl, hw⟩; rw [hw]; clear hw w3)
    | (go_at_call 17; refine (law14_known _).mono ?_; rintro x w5 ⟨rfl, hb⟩; have H5 := Lib.hid (H4.out.trans (hb.mono H4.out.size)); clear hb)
    | fail)
  · exact bodyPost_ret (v := .bool true) (by simp [results, Tryz.results3, go_sem]) rfl ⟨rfl, H1.out.2⟩
  · exact bodyPost_ret (v := .bool true) (by simp [results, Tryz.results3, go_sem]) rfl ⟨rfl, H5.out⟩
end Go.Proofs.YteioacpfphigjaaGreatDoor
