/-
  AgendaPlays, walked.
-/
import Derived.Test.YtbpgiahbnijidaaPl1
import Derived.Deep.RegionHeld3
import Derived.Deep.CutBlock
namespace Go.Proofs.Ytbpgiahbnijidaa
open Go.RowKit Go.Shelf
set_option linter.unusedVariables false
set_option linter.unusedSimpArgs false

theorem both_new (w : World) : Both w w.heap.size (w.heap.size + 1) [] [] (w.heap.size + 1 + 1) (w.heap.size + 1 + 1) ((w.alloc (.cells #[.slice none 0 0] 57)).alloc (.cells #[.slice none 0 0] 28)) := by
  have b1 := Boxed.new w 57 (.slice none 0 0)
  have b2 := Boxed.new (w.alloc (.cells #[.slice none 0 0] 57)) 28 (.slice none 0 0)
  rw [World.size_alloc] at b2
  exact ⟨((Below.refl _ w).alloc (Nat.le_refl _) _).alloc (by simp) _, ⟨.slice none 0 0, .slice none 0 0, ⟨b1.alloc _, OwnT.nil _ _, (by intro h; cases h), Nat.le_refl _⟩, ⟨b2, OwnT.nil _ _, by omega⟩, (fun k h => by cases h), (fun k h => by cases h), (fun k h => by cases h)⟩, by omega, by omega⟩
theorem acc_task {W : World} {b o : Nat} {x : Ac} (h : W.rangeAt b o (acc x)) : W.rangeAt b (o + 1) (tc x.t) := fun j u hj => by
  have hl := (List.getElem?_eq_some_iff.1 hj).1
  have := h (j + 1) u (by simp only [acc, List.getElem?_cons_succ]; rw [List.getElem?_append_left hl]; exact hj)
  rwa [show o + (j + 1) = o + 1 + j by omega] at this
theorem acc_n {W : World} {b o : Nat} {x : Ac} (h : W.rangeAt b o (acc x)) : W.cell? ⟨b, o + 37, none⟩ = some (.int .i64 x.n) := h 37 _ (by simp [acc, tc_len, List.getElem?_append])
theorem acc_most {W : World} {b o : Nat} {x : Ac} (h : W.rangeAt b o (acc x)) : W.cell? ⟨b, o + 38, none⟩ = some (.int .i64 x.most) := h 38 _ (by simp [acc, tc_len, List.getElem?_append])
theorem drew_le {w : World} {k : Nat} (h : w.drew.heap.size ≤ k) : w.heap.size ≤ k := h
theorem good_nil : Good [] := ⟨srt_nil, by simp⟩
attribute [local go_sem ↓] loadAt_task
set_option maxHeartbeats 8000000 in
set_option maxRecDepth 100000 in
theorem agendaPlays_walk (v : Value) (l : List Ac) (w : World) (hr : RdAc w v l) (hm : l.length ≤ maxLen) :
    Calls Try.prog 3 #[v] w fun e w' => e = .returned (.bool true) ∧ Below w.heap.size w w' := by
  obtain ⟨ao, cap, rfl, hrd⟩ := hr
  obtain ⟨L, hL⟩ : ∃ L, L = l.length := ⟨_, rfl⟩
  have HRD := Lib.hid hrd
  have HL := Lib.hid hL
  rw [← hL] at hm ⊢
  clear hrd hL hm
  go_enter Try.func3, Try.ntmps3
  by_cases c0 : (10000 : Int) < (L : Int)
  · go_wp2_with fail
    exact bodyPost_ret (v := .bool true) (by simp [results, Try.results3, go_sem]) rfl ⟨rfl, Below.refl _ _⟩
  go_wp2_with (first
    | (go_at_call 11; refine (agenda_New _).mono ?_; rintro e w1 ⟨rfl, rfl⟩)
    | fail)
  have hb0 := (both_new w).now
  obtain ⟨W0, hW0⟩ : ∃ W0, W0 = ((w.alloc (.cells #[.slice none 0 0] 57)).alloc (.cells #[.slice none 0 0] 28)) := ⟨_, rfl⟩
  obtain ⟨g, hg⟩ : ∃ g, g = w.heap.size := ⟨_, rfl⟩
  obtain ⟨yb, hyb⟩ : ∃ yb, yb = g + 1 := ⟨_, rfl⟩
  rw [← hW0] at hb0 ⊢
  rw [← hg] at hb0 ⊢
  rw [← hyb] at hb0 ⊢
  rw [hg] at hb0
  have H0 := Lib.hid hb0
  have HG := Lib.hid hg
  clear hb0 hW0 hg hyb
  go_loopw [5] (fun i wr => ∃ (k : Nat) (ts : List Tk), k ≤ L ∧ k ≤ 100 ∧ i = .int .i64 k ∧ Good ts ∧ Both w g yb ts ts wr.heap.size wr.heap.size wr) (fun i _ => 100 - (intOf i).toNat)
  case atStart => exact ⟨0, [], by omega, by omega, rfl, good_nil, by have := H0.out; rwa [← HG.out] at this⟩
  case round =>
    obtain ⟨k, ts, hkL, hk1, rfl, hgd, hbo⟩ := hrel
    clear H0
    by_cases hlt : k < L
    · by_cases hlt1 : k < 100
      · have hlt' : (k : Int) < L := by omega
        have hlt2 : (k : Int) < 100 := by omega
        obtain ⟨b, off, rfl, hrg⟩ := HRD.out k (by rw [← HL.out]; exact hlt)
        obtain ⟨x, hx⟩ : ∃ x, x = l[k]'(by rw [← HL.out]; exact hlt) := ⟨_, rfl⟩
        rw [← hx] at hrg
        clear hx
        have hall : ∀ W, Below w.heap.size w W → W.rangeAt b (off + k * 39) (acc x) := fun W hB => rangeAt_of_block hrg (hB.block b (rangeAt_lt hrg (by intro e; have := acc_len x; rw [e] at this; simp at this)))
        have cK : wr.cell? ⟨b, off + k * 39, none⟩ = some (.int .i64 x.kind) := by have := hall wr hbo.old 0 (.int .i64 x.kind) (by simp [acc]); simpa using this
        have HALL := Lib.hid hall
        have HB := Lib.hid hbo
        have HGD := Lib.hid hgd
        clear hall hbo hgd hrg
        have HBD := Lib.hid (HB.out.later (w1 := wr.drew) (Below.refl _ wr).drew)
        go_upto_block 2 with fail
        go_cut [2] (fun q wx => ∃ ts', Good ts' ∧ Both w g yb ts' ts' wx.heap.size wx.heap.size wx)
        case first =>
          by_cases k1 : x.kind = 1
          · have e1 : (x.kind == 1) = true := by simp [k1]
            clear k1
            go_upto_region 13 with fail
            go_region_held3 (fun w' => (loadTask (.pointer (some ⟨b, off + k * 39 + 1, none⟩))).run Try.prog w' = .ok (.agg (tc x.t).toArray) w') (first | exact run_loadTask_at (acc_task (HALL.out _ HBD.out.old)) | exact run_loadTask_at (acc_task (HALL.out _ X1.out.old)) | exact run_loadTask_at (acc_task (HALL.out _ Y1.out.old)) | exact run_loadTask_at (acc_task (HALL.out _ H2.out.old))) (first | (go_at_call 12; with_reducible refine (Both.xput x.t HBD.out HGD.out.srt HGD.out.len).mono ?_; rintro e wx1 ⟨rfl, hb⟩; have X1 := Lib.hid hb; clear hb) | (go_at_call 13; with_reducible refine (Both.yput x.t X1.out HGD.out.len).mono ?_; rintro e wh2 ⟨rfl, hb⟩; have H2 := Lib.hid hb; clear hb) | (go_at_call 13; with_reducible refine (Both.yput x.t HBD.out HGD.out.len).mono ?_; rintro e wy1 ⟨rfl, hb⟩; have Y1 := Lib.hid hb; clear hb) | (go_at_call 12; with_reducible refine (Both.xput x.t Y1.out HGD.out.srt HGD.out.len).mono ?_; rintro e wh2 ⟨rfl, hb⟩; have H2 := Lib.hid hb; clear hb) | fail)
            all_goals go_wp2_with fail
            all_goals go_meet
            all_goals exact ⟨_, HGD.out.put _, H2.out.now⟩
          · by_cases k2 : x.kind = 2
            · have e1 : (x.kind == 1) = false := by simp [k1]
              have e2 : (x.kind == 2) = true := by simp [k2]
              clear k1 k2
              go_upto_region 16 with fail
              go_region_held3 (fun w' => w'.cell? ⟨b, off + k * 39 + 37, none⟩ = some (.int .i64 x.n)) (first | exact acc_n (HALL.out _ HBD.out.old) | exact acc_n (HALL.out _ X1.out.old) | exact acc_n (HALL.out _ Y1.out.old) | exact acc_n (HALL.out _ H2.out.old)) (first | (go_at_call 14; with_reducible refine (Both.xcancel x.n HBD.out HGD.out.len).mono ?_; rintro e wx1 ⟨rfl, hb⟩; have X1 := Lib.hid hb; clear hb) | (go_at_call 15; with_reducible refine (Both.ycancel x.n X1.out HGD.out.len).mono ?_; rintro e wh2 ⟨rfl, hb⟩; have H2 := Lib.hid hb; clear hb) | (go_at_call 15; with_reducible refine (Both.ycancel x.n HBD.out HGD.out.len).mono ?_; rintro e wy1 ⟨rfl, hb⟩; have Y1 := Lib.hid hb; clear hb) | (go_at_call 14; with_reducible refine (Both.xcancel x.n Y1.out HGD.out.len).mono ?_; rintro e wh2 ⟨rfl, hb⟩; have H2 := Lib.hid hb; clear hb) | fail)
              all_goals go_wp2_with fail
              all_goals go_meet
              all_goals exact ⟨_, HGD.out.del _, H2.out.now⟩
            · have e1 : (x.kind == 1) = false := by simp [k1]
              have e2 : (x.kind == 2) = false := by simp [k2]
              clear k1 k2
              go_upto_region 10 with fail
              go_region_held3 (fun w' => w'.cell? ⟨b, off + k * 39 + 37, none⟩ = some (.int .i64 x.n) ∧ w'.cell? ⟨b, off + k * 39 + 38, none⟩ = some (.int .i64 x.most)) (first | exact ⟨acc_n (HALL.out _ HBD.out.old), acc_most (HALL.out _ HBD.out.old)⟩ | exact ⟨acc_n (HALL.out _ X1.out.old), acc_most (HALL.out _ X1.out.old)⟩ | exact ⟨acc_n (HALL.out _ Y1.out.old), acc_most (HALL.out _ Y1.out.old)⟩ | exact ⟨acc_n (HALL.out _ H2.out.old), acc_most (HALL.out _ H2.out.old)⟩ | exact ⟨acc_n (HALL.out _ H3.out.old), acc_most (HALL.out _ H3.out.old)⟩) (first | (go_at_call 17; with_reducible refine (Both.xdue x.n x.most HBD.out HGD.out.len).mono ?_; rintro e wx1 ⟨v1, rfl, ho, hb, hkp⟩; have HO1 := Lib.hid ho; have X1 := Lib.hid hb; clear ho hb hkp) | (go_at_call 18; with_reducible refine (Both.ydue x.n x.most X1.out HGD.out.len).mono ?_; rintro e wh2 ⟨v2, rfl, ho, hb, hkp⟩; have HP1 := Lib.hid ((HO1.out.of (Nat.le_refl _) (fun k hk => hkp k (drew_le (HO1.out.block hk).1) (HO1.out.block hk).2)).reads); have HP2 := Lib.hid ho.reads; have H2 := Lib.hid hb; clear ho hb hkp) | (go_at_call 18; with_reducible refine (Both.ydue x.n x.most HBD.out HGD.out.len).mono ?_; rintro e wy1 ⟨v2, rfl, ho, hb, hkp⟩; have HO2 := Lib.hid ho; have Y1 := Lib.hid hb; clear ho hb hkp) | (go_at_call 17; with_reducible refine (Both.xdue x.n x.most Y1.out HGD.out.len).mono ?_; rintro e wh2 ⟨v1, rfl, ho, hb, hkp⟩; have HP2 := Lib.hid ((HO2.out.of (Nat.le_refl _) (fun k hk => hkp k (drew_le (HO2.out.block hk).1) (HO2.out.block hk).2)).reads); have HP1 := Lib.hid ho.reads; have H2 := Lib.hid hb; clear ho hb hkp) | (go_at_call 16; with_reducible refine (law_same v1 v2 (dueL ts x.n x.most) _ HP1.out HP2.out (by have := dueL_le ts x.n x.most; have := HGD.out.len; omega)).mono ?_; rintro e wh3 ⟨rfl, hb3⟩; have H3 := Lib.hid (H2.out.later hb3); clear hb3) | fail)
              all_goals go_wp2_with fail
              all_goals go_meet
              all_goals exact ⟨_, HGD.out.drop _, H3.out.now⟩
        case rest =>
          obtain ⟨ts2, hg2, hb2⟩ := hcut
          have HBC := Lib.hid hb2
          obtain ⟨hB, ⟨v1, v2, hA, hR, hd, -, -⟩, -, -⟩ := hb2
          obtain ⟨a2, c2, hv2⟩ := hR.own.reads.lenOf
          obtain ⟨n2, hn2⟩ : ∃ n2, n2 = ts2.length := ⟨_, rfl⟩
          rw [← hn2] at hv2
          subst hv2
          have HA2 := Lib.hid hA
          have HR2 := Lib.hid hR
          have HG2 := Lib.hid hg2
          have HN2 := Lib.hid hn2
          clear hB hA hR hd hg2 hn2 cK HB HBD HGD
          go_upto_region 19 with (first
            | (go_at_call 19; with_reducible refine (lawAll _ g v1 ts2 _ HA2.out HG2.out.len).mono ?_; rintro e w5 ⟨vp, rfl, hop, hb5⟩; have HA5 := Lib.hid ((HA2.out.later hb5).later (w' := w5.drew) (Below.refl _ w5).drew); have HR5 := Lib.hid ((HR2.out.later hb5).later (w' := w5.drew) (Below.refl _ w5).drew); have HP5 := Lib.hid (hop.reads.below (w' := w5.drew) (Below.refl _ w5).drew); have HB5 := Lib.hid ((HBC.out.later hb5).later (w1 := w5.drew) (Below.refl _ w5).drew); clear hop hb5)
            | fail)
          go_region_held3 (fun w' => w'.cell? ⟨yb, 0, none⟩ = some (.slice a2 n2 c2)) (first | exact HR5.out.at_.cell | exact HR6.out.at_.cell) (first
            | (go_at_call 16; with_reducible refine (law_same vp (.slice a2 n2 c2) ts2 _ HP5.out HR5.out.own.reads (by have := HG2.out.len; omega)).mono ?_; rintro e w6 ⟨rfl, hb6⟩; have HA6 := Lib.hid (HA5.out.later hb6); have HR6 := Lib.hid (HR5.out.later hb6); have HB6 := Lib.hid (HB5.out.later hb6); clear hb6)
            | (go_at_call 20; with_reducible refine (agenda_Len _ g v1 ts2 _ HA6.out).mono ?_; rw [← HN2.out]; rintro e w7 ⟨rfl, rfl⟩)
            | fail)
          go_wp2_with fail
          go_roundw
          case rel => exact ⟨k + 1, ts2, by omega, by omega, by go_num, HG2.out, HB6.out.now⟩
          case measure => simp [intOf]; omega
      · have hge : ¬ (k : Int) < 100 := by omega
        have hlt' : (k : Int) < L := by omega
        have HBO := Lib.hid hbo.old
        clear hlt hlt1 hbo hgd
        go_wp2_with (first
          | (go_at_call 21; with_reducible refine (law_known _).mono ?_; rintro e wk ⟨rfl, hk⟩; have HK := Lib.hid hk; clear hk)
          | fail)
        exact bodyPost_ret (v := .bool true) (by simp [results, Try.results3, go_sem]) rfl ⟨rfl, HBO.out.trans (HK.out.mono HBO.out.size)⟩
    · have hge : ¬ (k : Int) < L := by omega
      have HBO := Lib.hid hbo.old
      clear hlt hbo hgd
      go_wp2_with (first
        | (go_at_call 21; with_reducible refine (law_known _).mono ?_; rintro e wk ⟨rfl, hk⟩; have HK := Lib.hid hk; clear hk)
        | fail)
      exact bodyPost_ret (v := .bool true) (by simp [results, Try.results3, go_sem]) rfl ⟨rfl, HBO.out.trans (HK.out.mono HBO.out.size)⟩
end Go.Proofs.Ytbpgiahbnijidaa
