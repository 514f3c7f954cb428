/-
  AgendaDue, walked.
-/
import Derived.Test.YtbpgiahbnijidaaDue1
import Derived.Test.YtbpgiahbnijidaaOpI
import Derived.Deep.WholeRow
namespace Go.Proofs.Ytbpgiahbnijidaa
open Go.RowKit Go.Shelf
set_option linter.unusedVariables false
set_option linter.unusedSimpArgs false

/-- Put, when memory was made since: what was made stays. -/
theorem st_put_new {w0 w w1 : World} {g : Nat} {ts : List Tk} (t : Tk) (h : AgSt w0 g ts w) (hb : Below w.heap.size w w1) (hS : Srt ts) (hl : ts.length ≤ 12) : Calls Try.prog 12 #[.pointer (some ⟨g, 0, none⟩), .agg (tc t).toArray] w1 fun e w' => e = .returned (.int .i64 (putE ts t)) ∧ AgSt w0 g (putL ts t) w' ∧ ∀ k, w.heap.size ≤ k → k < w1.heap.size → w'.heap[k]? = w1.heap[k]? := by
  obtain ⟨v, hA, hB⟩ := h
  have hs := hb.size
  have hB1 : Below w0.heap.size w0 w1 := hB.trans (hb.mono hB.size)
  have hA1 := hA.later hb
  refine (agenda_Put _ g v ts t w1 hA1 hS hl hB1.size).mono fun e w' ⟨he, hl⟩ => ⟨he, AgSt.left hA1 hB1 hl, fun k h1 h2 => ?_⟩
  obtain ⟨v2, hA2, ho⟩ := hl
  refine ho.block k h2 ?_ (fun h => h)
  rintro (rfl | h3)
  · have := hA.lt; omega
  · have := (hA.own.block h3).2; omega
theorem at_one {w : World} {b : Nat} {t : Tk} (h : w.heap[b]? = some (.cells (tc t).toArray 32 (0, 0))) : w.cell? ⟨b, 1, none⟩ = some (.int .i64 t.due) := by
  rw [World.cell?, h]; simp [tc]
attribute [local go_sem ↓] build_tk
set_option maxHeartbeats 4000000 in
set_option maxRecDepth 100000 in
theorem agendaDue_walk (v : Value) (l : List Int) (now : Int) (w1 : (Lit.int .i64 now).wf = true) (most : Int) (w2 : (Lit.int .i64 most).wf = true) (w : World) (hr : RdI w v l) (_hb : ∀ n ∈ l, (Lit.int .i64 n).wf = true) (hm : l.length ≤ maxLen) :
    Calls Try.prog 5 #[v, .int .i64 now, .int .i64 most] w fun e w' => e = .returned (.bool true) ∧ Below w.heap.size w w' := by
  clear w1 w2 _hb hm
  obtain ⟨ao, cap, rfl⟩ := hr.lenOf
  obtain ⟨L, hL⟩ : ∃ L, L = l.length := ⟨_, rfl⟩
  rw [← hL] at hr ⊢
  have HR := Lib.hid hr
  have HL := Lib.hid hL
  clear hr hL
  go_enter Try.func5, Try.ntmps5
  by_cases c0 : (12 : Int) < (L : Int)
  · go_wp2_with fail
    exact bodyPost_ret (v := .bool true) (by simp [results, Try.results5, go_sem]) rfl ⟨rfl, Below.refl _ _⟩
  by_cases c1 : now < 0
  · go_wp2_with fail
    exact bodyPost_ret (v := .bool true) (by simp [results, Try.results5, go_sem]) rfl ⟨rfl, Below.refl _ _⟩
  by_cases c2 : 63 < now
  · go_wp2_with fail
    exact bodyPost_ret (v := .bool true) (by simp [results, Try.results5, go_sem]) rfl ⟨rfl, Below.refl _ _⟩
  by_cases c3 : most < 1
  · go_wp2_with fail
    exact bodyPost_ret (v := .bool true) (by simp [results, Try.results5, go_sem]) rfl ⟨rfl, Below.refl _ _⟩
  by_cases c4 : 15 < most
  · go_wp2_with fail
    exact bodyPost_ret (v := .bool true) (by simp [results, Try.results5, go_sem]) rfl ⟨rfl, Below.refl _ _⟩
  have RB := run_build2
  obtain ⟨g, hg⟩ : ∃ g, g = w.heap.size := ⟨_, rfl⟩
  have HW := Lib.hid (Below.refl w.heap.size w)
  go_wp2_with (first
    | (go_at_call 11; with_reducible refine (st_new _).mono ?_; rw [← hg]; rintro e w1 ⟨rfl, hs⟩; have HS := Lib.hid hs; clear hs hg)
    | fail)
  go_loopw [8, 9] (fun c i wr => ∃ (k d : Nat) (ts : List Tk), k ≤ L ∧ i = .int .i64 k ∧ c = .int .i64 d ∧ Dues now k d ts ∧ AgSt w g ts wr) (fun _ i _ => L - (intOf i).toNat)
  case atStart => exact ⟨0, 0, [], by omega, rfl, rfl, Dues.nil _, HS.out⟩
  case round =>
    obtain ⟨k, d, ts, hk, rfl, rfl, hD, hs⟩ := hrel
    clear HS
    have HK := Lib.hid hk
    by_cases hlt : k < L
    · have hlt' : (k : Int) < L := by omega
      obtain ⟨q, hq⟩ : ∃ q, q = l.getD k 0 := ⟨_, rfl⟩
      obtain ⟨y, hy, hy0, -⟩ := i64_and63 q
      have hbw : Below w.heap.size w wr := by obtain ⟨_, _, hB⟩ := hs; exact hB
      obtain ⟨aa, rfl, hc⟩ := (HR.out.below hbw).at (i := k) (by have := HL.out; omega)
      have hsp := World.cell?_spot hc
      rw [← hq] at hc
      obtain ⟨T1, hT1⟩ : ∃ T1, T1 = mkT (k : Nat) y := ⟨_, rfl⟩
      have B1 := RB (k : Nat) y
      have hTd : T1.due = y := by rw [hT1]; rfl
      obtain ⟨hE, hD2⟩ := hD.put y hy0 (by omega)
      rw [← hT1] at B1 hE hD2
      have hlen := hD.len
      have hln : ts.length ≤ 12 := by omega
      have HS1 := Lib.hid hs
      have HE := Lib.hid hE
      have HD := Lib.hid hD.srt
      have HD2 := Lib.hid hD2
      have HLN := Lib.hid hln
      have HTD := Lib.hid hTd
      have HCL := Lib.hid (show d ≤ 12 by have := cntD_le now ts; rw [hD.cnt] at this; omega)
      clear hs hE hD hD2 hlen hln hT1 hTd RB hq hk hbw
      by_cases hyn : y ≤ now
      all_goals
        go_wp2_with (first
          | (refine wpl_allocT rfl rfl ?_; intro C hC)
          | (refine wpl_storeT (t := T1) _ _ rfl rfl rfl rfl (heap_alloc_last _ _) hC ?_; rw [World.setRow_alloc_new]; clear hC)
          | (refine wpl_loadT (t := T1) _ rfl rfl rfl (rangeAt_box (heap_alloc_last _ _)) ?_)
          | (go_at_call 12; with_reducible refine (st_put_new T1 HS1.out ((Below.refl _ _).alloc (Nat.le_refl _) _) HD.out HLN.out).mono ?_; rw [HE.out]; rintro e w2 ⟨rfl, hs, hnew⟩; have cD : w2.cell? ⟨wr.heap.size, 1, none⟩ = some (.int .i64 y) := (by rw [← HTD.out]; exact at_one ((hnew wr.heap.size (Nat.le_refl _) (by simp)).trans (heap_alloc_last _ _))); have HS := Lib.hid hs; clear hs hnew HS1)
          | fail)
        refine ⟨⟨k + 1, _, _, by have := HK.out; omega, by go_num, ?_, HD2.out, HS.out⟩, by simp [intOf]; omega⟩
        first
          | (rw [if_pos (by omega)]; have := HCL.out; simp; unfold wrap64; omega)
          | (rw [if_neg (by omega)]; simp)
    · have hkn : k = L := by omega
      subst hkn
      have hlen := hD.len
      have hcl := cntD_le now ts
      rw [hD.cnt, hlen] at hcl
      have hst : ∃ (q e : Nat) (ts' : List Tk), q ≤ 20 ∧ (0 : Int) = (q : Nat) ∧ (0 : Int) = (e : Nat) ∧ q ≤ e ∧ e + cntD now ts' = d ∧ ts'.length + e = k ∧ Srt ts' ∧ AgSt w g ts' wr := ⟨0, 0, ts, by omega, rfl, rfl, by omega, by rw [hD.cnt]; omega, by omega, hD.srt, hs⟩
      have HST := Lib.hid hst
      have HDK := Lib.hid hcl
      have hk12 : k ≤ 12 := by omega
      clear hs hst hD hlen hcl hlt hk HK RB
      obtain ⟨wq, hwq⟩ : ∃ wq, wq = wr := ⟨_, rfl⟩
      subst hwq
      go_wp2_with fail
      go_loopw [11, 12] (fun go i wr => ∃ (q e : Nat) (ts' : List Tk), q ≤ 20 ∧ i = .int .i64 q ∧ go = .int .i64 e ∧ q ≤ e ∧ e + cntD now ts' = d ∧ ts'.length + e = k ∧ Srt ts' ∧ AgSt w g ts' wr) (fun _ i _ => 20 - (intOf i).toNat)
      case atStart =>
        obtain ⟨q, e, ts', h1, h2, h3, h4⟩ := HST.out
        exact ⟨q, e, ts', h1, by rw [h2], by rw [h3], h4⟩
      case round =>
        clear HST
        obtain ⟨q, e, ts', hq, rfl, rfl, hqe, hcn, hln, hS, hs⟩ := hrel
        have hdk := HDK.out
        by_cases hlt : q < 20
        · have hlt' : (q : Int) < 20 := by omega
          obtain ⟨D, hD⟩ : ∃ D, D = dueL ts' now most := ⟨_, rfl⟩
          obtain ⟨E, hE⟩ : ∃ E, E = D.length := ⟨_, rfl⟩
          have hm1 := dueL_most' ts' now most (by omega)
          have hct := cnt_taken ts' now most
          have hle := dueL_le ts' now most
          have hfew := @dueL_few ts' now most hS
          have hdd := dueL_due ts' now most
          rw [← hD] at hm1 hct hle hfew hdd
          rw [← hE] at hm1 hct hle hfew
          have hsp : ((E : Int) < most ∧ e + E = d) ∨ ¬ (E : Int) < most := by
            by_cases h : (E : Int) < most
            · exact .inl ⟨h, by have := hfew h; omega⟩
            · exact .inr h
          have GM : decide (most < (E : Int)) = false := by simp; omega
          have hE15 : E ≤ 15 := by omega
          obtain ⟨e', he'⟩ : ∃ e', e' = e + E := ⟨_, rfl⟩
          have WE := n64_add e E e' he'.symm (by omega)
          have HS1 := Lib.hid hs
          have HS := Lib.hid hS
          have HD := Lib.hid hD
          have HE := Lib.hid hE
          have HCT := Lib.hid hct
          have HLE := Lib.hid hle
          have HDD := Lib.hid hdd
          have HCN := Lib.hid hcn
          have HLN := Lib.hid hln
          have HEE := Lib.hid he'
          have HQ := Lib.hid hq
          have HQE := Lib.hid hqe
          have HDK2 := Lib.hid hdk
          have HFE := Lib.hid hfew
          clear hs hS hD hE hm1 hct hle hfew hdd hcn hln hq hqe hdk he'
          have hsp2 : (decide ((E : Int) < most) = true ∧ d = e') ∨ decide ((E : Int) < most) = false := by
            rcases hsp with ⟨h1, h2⟩ | h
            · exact .inl ⟨by simpa using h1, by have := HEE.out; omega⟩
            · exact .inr (by simpa using h)
          clear hsp
          rcases hsp2 with ⟨G1, rfl⟩ | G1
          all_goals
            go_wp2_with (first
              | (go_at_call 17; with_reducible refine (st_due now most HS1.out (by have := HLN.out; omega)).mono ?_; rw [← HD.out, ← HE.out]; rintro e w3 ⟨v3, rfl, hrd, hs⟩; obtain ⟨ao3, cap3, hv⟩ := hrd.lenOf; rw [← HE.out] at hv; subst hv; have HO := Lib.hid hrd; have HC := Lib.hid hs; clear hs hrd HS1)
              | fail)
            go_loopw [14] (fun i wr => ∃ (m : Nat), m ≤ E ∧ i = .int .i64 m ∧ wr = w3) (fun i _ => E - (intOf i).toNat)
            case atStart => exact ⟨0, by omega, rfl, rfl⟩
            case round =>
              obtain ⟨m, hm, rfl, rfl⟩ := hrel
              by_cases hlt : m < E
              · have hlt' : (m : Int) < E := by omega
                have hmd : m < D.length := by have := HE.out; omega
                obtain ⟨rb, off, rfl, hrg, hrb⟩ := HO.out.at hmd
                obtain ⟨y, hy⟩ : ∃ y, y = D[m].due := ⟨_, rfl⟩
                have cN : wr.cell? ⟨rb, off + m * 36 + 1, none⟩ = some (.int .i64 y) := by have := hrg 1 (.int .i64 y) (by simp [tc, hy]); simpa using this
                have hyn : ¬ now < y := by have := HDD.out _ (List.getElem_mem hmd); omega
                have GY : decide (now < y) = false := by simpa using hyn
                clear hy hrg hrb hmd
                go_wp2_with fail
                exact ⟨⟨m + 1, by omega, by go_num, by trivial⟩, by simp [intOf]; omega⟩
              · have hmD : m = E := by omega
                clear hlt hm
                subst hmD
                by_cases hz : m = 0
                · subst hz
                  obtain ⟨ts2, hts2⟩ : ∃ t, t = ts'.drop 0 := ⟨_, rfl⟩
                  have hne : e = d := by
                    have h1 := HFE.out (by omega)
                    have h2 := HCN.out
                    omega
                  have hl2 : ts'.length + d = k := by rw [← hne]; exact HLN.out
                  subst hne
                  have HC1 := Lib.hid (show AgSt w g ts' wr from by have := HC.out; rwa [List.drop_zero] at this)
                  have hz0 := dueL_zero ts' now
                  have HZ0 := Lib.hid hz0
                  obtain ⟨n, hn⟩ : ∃ n, n = ts'.length := ⟨_, rfl⟩
                  have HN := Lib.hid hn
                  rw [← hn] at hl2
                  have he6 : e < 1000000 := by omega
                  have hk6 : k < 1000000 := by omega
                  have hl3 : e + n = k := by omega
                  have hn12 : n ≤ 12 := by omega
                  clear hn hz0 HC hl2 WE
                  have WE1 := n64_in' e he6
                  have WE0 := n64_in e he6
                  have WK := n64_sub k e n hl3 hk6
                  clear he6 hk6 hl3
                  go_wp2_with (first
                    | (go_at_call 20; with_reducible refine (st_len HC1.out).mono ?_; rw [← HN.out]; rintro e w5 ⟨rfl, rfl⟩)
                    | (go_at_call 17; with_reducible refine (st_due now 0 HC1.out (by have := HN.out; omega)).mono ?_; rw [HZ0.out]; rintro e w4 ⟨v4, rfl, hrd, hs⟩; obtain ⟨ao4, cap4, rfl⟩ := hrd.lenOf; have HC4 := Lib.hid hs; clear hs hrd HC1)
                    | (go_at_call 21; with_reducible refine (law_known _).mono ?_; rintro e wk ⟨rfl, hk⟩; have HK := Lib.hid hk; clear hk)
                    | fail)
                  exact bodyPost_ret (v := .bool true) (by simp [results, Try.results5, go_sem]) rfl ⟨rfl, (by obtain ⟨_, _, hB⟩ := HC4.out; exact hB.trans (HK.out.mono hB.size))⟩
                · have hz1 : ((m : Int) = 0) = False := by simp; omega
                  go_wp2_with fail
                  refine ⟨⟨q + 1, _, ts'.drop m, by have := HQ.out; omega, by go_num, by go_num, by have := HQE.out; have := HEE.out; omega, by have := HCT.out; have := HCN.out; have := HEE.out; omega, by have := HLN.out; have := HEE.out; have := HLE.out; rw [List.length_drop]; omega, srt_drop HS.out m, HC.out⟩, by simp [intOf]; omega⟩
        · exfalso; omega
end Go.Proofs.Ytbpgiahbnijidaa
