/-
  The law's size: it comes back.
-/
import Derived.Test.YtbndegkgpoemnaaOpC
import Derived.Test.YtbndegkgpoemnaaEnc
namespace Go.Proofs.Ytbndegkgpoemnaa
open Go.RowKit
set_option linter.unusedVariables false
set_option linter.unusedSimpArgs false

set_option maxRecDepth 100000 in
set_option maxHeartbeats 4000000 in
theorem law_size (d : Nat) : ∀ (c : Cl) (v : Value) (w : World), RdC w d v c → LenC c → Calls Try.prog 10 #[v] w fun e w' => (∃ r : Int, e = .returned (.int .i64 r)) ∧ Below w.heap.size w w' := by
  induction d with
  | zero => intro c v w h; exact h.elim
  | succ d ih =>
  intro c v w hrd hlen
  obtain ⟨d', ao, cap, hd, rfl, hkids⟩ := hrd.open
  obtain rfl : d' = d := by omega
  obtain ⟨hl1, hl2⟩ := (lenC_iff c).1 hlen
  obtain ⟨k, hk⟩ : ∃ k, k = c.k := ⟨_, rfl⟩
  obtain ⟨t, ht⟩ : ∃ t, t = c.t := ⟨_, rfl⟩
  obtain ⟨n, hn⟩ : ∃ n, n = c.n := ⟨_, rfl⟩
  obtain ⟨l, hl⟩ : ∃ l, l = c.kids := ⟨_, rfl⟩
  rw [← hk, ← ht, ← hn, ← hl]
  rw [← hl] at hkids hl1 hl2
  obtain ⟨m, hm⟩ : ∃ m, m = l.length := ⟨_, rfl⟩
  rw [← hm] at hl1 ⊢
  have hmI : (m : Int) ≤ 9223372036854775807 := Int.le_trans (Int.ofNat_le.2 hl1) (by decide +kernel)
  obtain ⟨W, hW⟩ : ∃ W, W = w.alloc (.cells #[.int .i64 k, .int .i64 t, .int .i64 n, .slice ao m cap] 28) := ⟨_, rfl⟩
  have hB : Below w.heap.size w W := by rw [hW]; exact (Below.refl _ w).alloc (Nat.le_refl _) _
  have g1 := World.alloc_heap_new w (.cells #[.int .i64 k, .int .i64 t, .int .i64 n, .slice ao m cap] 28)
  rw [← hW] at g1
  obtain ⟨cb, hcb⟩ : ∃ cb, cb = w.heap.size := ⟨_, rfl⟩
  rw [← hcb] at g1
  have a3 : W.cell? ⟨cb, 3, none⟩ = some (.slice ao m cap) := by rw [World.cell?, g1]; rfl
  have HRD := Lib.hid (RdCs.below hkids hB)
  have HB := Lib.hid hB
  have HM := Lib.hid (And.intro hm hl2)
  have IH := Lib.hid ih
  have HCB := Lib.hid (show cb < W.heap.size by rw [hW, hcb]; simp)
  clear hk ht hn hl hrd hlen hkids hl1 hl2 hm g1 hB ih hd
  go_enter Try.func10, Try.ntmps10
  go_upto_region 1 with fail
  rw [← hW, ← hcb]
  clear hW hcb
  go_wp2_with fail
  go_loopw [3, 4] (fun r i wr => ∃ (q : Int) (j : Nat), j ≤ m ∧ r = .int .i64 q ∧ i = .int .i64 j ∧ Below W.heap.size W wr) (fun _ i _ => m - (intOf i).toNat)
  case atStart => exact ⟨_, 0, by omega, rfl, rfl, Below.refl _ _⟩
  case round =>
    obtain ⟨q, j, hj, rfl, rfl, hb⟩ := hrel
    have HBW := Lib.hid hb
    have b3 : wr.cell? ⟨cb, 3, none⟩ = some (.slice ao m cap) := (World.cell?_of_block (a := ⟨cb, 3, none⟩) (hb.block cb HCB.out)).trans a3
    clear a3
    by_cases hin : j < m ∧ q < 300
    · obtain ⟨hlt, hq⟩ := hin
      have hlt' : (j : Int) < m := by omega
      have hjl : j < l.length := by rw [← HM.out.1]; exact hlt
      obtain ⟨kb, ko, vs, rfl, hkb, hrg, hrd⟩ := HRD.out j hjl
      have hrg2 : wr.rangeAt kb (ko + j * 4) vs := rangeAt_keep hrg (hb.block kb hkb)
      have hrd2 : RdC wr d' (.agg vs.toArray) l[j] := RdC.below hb hrd
      have hcall := IH.out l[j] _ wr hrd2 (HM.out.2 _ (List.getElem_mem hjl))
      obtain ⟨a4, c4, e4⟩ := hrd2.cells
      obtain ⟨c1, c2, c3, c5, e5⟩ : ∃ c1 c2 c3 c5, vs = [.int .i64 c1, .int .i64 c2, .int .i64 c3, .slice a4 c5 c4] := ⟨_, _, _, _, e4⟩
      clear e4
      subst e5
      have HCA := Lib.hid hcall
      have HRG := Lib.hid hrg2
      clear hkb hrg hrd hrg2 hrd2 hcall hb hjl
      go_wp2_with (first
        | (refine wpl_loadC _ rfl rfl rfl HRG.out rfl ?_)
        | (go_at_call 10; refine HCA.out.mono ?_; rintro e w1 ⟨⟨r, rfl⟩, hb⟩; have H1 := Lib.hid (HBW.out.trans (hb.mono HBW.out.size)); clear hb)
        | fail)
      go_roundw
      case rel => exact ⟨_, j + 1, by omega, rfl, by go_num, H1.out⟩
      case measure => simp [intOf]; omega
    · have hex : (¬ (j : Int) < m) ∨ ((j : Int) < m ∧ ¬ q < 300) := by omega
      clear hin hb hj
      rcases hex with h1 | ⟨h1, h2⟩
      all_goals go_wp2_with fail
      all_goals exact bodyPost_ret (v := .int .i64 q) (by simp [results, Try.results10, go_sem]) rfl ⟨⟨_, rfl⟩, HB.out.trans (HBW.out.mono HB.out.size)⟩
end Go.Proofs.Ytbndegkgpoemnaa
