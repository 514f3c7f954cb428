/-
  What may be is read as it was: the law, walked.
-/
import Derived.Test.YtbndegkgpoemnaaRfB
import Derived.Test.YtbndegkgpoemnaaEnc
import Derived.Test.YtbndegkgpoemnaaCod9
import Derived.Test.YtbndegkgpoemnaaOpC
import Derived.Test.YtbndegkgpoemnaaRf8
import Derived.Test.YtbndegkgpoemnaaComD
import Derived.Deep.DeepCutAuto
import Derived.Deep.CutBlock
import Derived.WalkKit
import Derived.Lib.Hide
import Derived.Below
import Derived.OwnWalkIn
import Derived.Maps.OwnIn
import Derived.Maps.AppendAt
import Derived.Deep.MidRow
import Derived.Deep.WholeRow
import Derived.Great.BuildSlice
import Derived.RangeFuncBox
import Derived.Laws.Tables
import Derived.Test.YtbndegkgpoemnaaCod5
import Derived.Test.YtbndegkgpoemnaaLay
import Derived.Test.YtbndegkgpoemnaaIsx0
import Derived.Deep.RegionWith
import Derived.Deep.RegionLaw
import Derived.Laws.IdiomCopy
import Derived.Shelf.Spec.SlicesInsert
import Derived.Deep.RegionHeld3
import Derived.Test.YtbndegkgpoemnaaCod8

section
namespace Go.Proofs.Ytbndegkgpoemnaa
open Go.RowKit
set_option linter.unusedVariables false
theorem ref_IsExt (k who to' n r tr lv : Int) (e : Ex) (he : e.hd = [k, who, to', n, r, tr, lv]) (c : Cl) (d : Nat) (w : World) (hrd : RdC w d (.agg #[.int .i64 e.ck, .int .i64 e.ct, .int .i64 e.cn, .slice e.ca e.m e.cc]) c) :
    Calls Try.prog 17 #[.agg (ec e).toArray] w fun x w' => x = .returned (.bool (isX k who to' n r tr lv e (okC 3 c) (voteB e.vote.kind e.vote.aye e.vote.level e.vote.a e.vote.n e.vote.s))) ∧ Below w.heap.size w w' := by
  rw [← refX_eq k who to' n r tr lv e _ _ (fun h => voteB_kind h)]
  exact ref_IsExtX k who to' n r tr lv e he _ _ w (fun W hb => ref_IsCall d c _ W (hrd.below hb)) (fun W => ref_Is5 e.vote.kind e.vote.aye e.vote.level e.vote.a e.vote.n e.vote.s W)
end Go.Proofs.Ytbndegkgpoemnaa
end

section
namespace Go.Proofs.Ytbndegkgpoemnaa
open Go.RowKit
set_option linter.unusedVariables false
set_option linter.unusedSimpArgs false

def exHd (l : List Int) (h : l.length = 7) : Ex := exWith exZero l h
theorem run_buildE2 (a b : Int) (w : World) : (buildE #[(0, .int .i64 a), (1, .int .i64 b)]).run Try.prog w = .ok (.agg (ec (exHd [a, b, 0, 0, 0, 0, 0] rfl)).toArray) w := by kernel_rfl
theorem run_buildE4 (a b c d : Int) (w : World) : (buildE #[(0, .int .i64 a), (1, .int .i64 b), (2, .int .i64 c), (3, .int .i64 d)]).run Try.prog w = .ok (.agg (ec (exHd [a, b, c, d, 0, 0, 0] rfl)).toArray) w := by kernel_rfl
theorem run_buildE5 (a b c : Int) (w : World) : (buildE #[(0, .int .i64 a), (1, .int .i64 b), (4, .int .i64 c)]).run Try.prog w = .ok (.agg (ec (exHd [a, b, 0, 0, c, 0, 0] rfl)).toArray) w := by kernel_rfl
theorem run_buildE6 (a b c : Int) (w : World) : (buildE #[(0, .int .i64 a), (1, .int .i64 b), (5, .int .i64 c)]).run Try.prog w = .ok (.agg (ec (exHd [a, b, 0, 0, 0, c, 0] rfl)).toArray) w := by kernel_rfl
theorem extEq_zero (a b c d e f g : Int) (l : List Int) (h : l.length = 7) (h0 : l = [0, 0, 0, 0, 0, 0, 0]) : extEq (exWith (exHd [a, b, c, d, e, f, g] rfl) l h) exZero = true := by subst h0; rfl
attribute [local go_sem ↓] build_e
theorem rdC0 {k t n : Int} {w : World} : RdC w 1 (.agg #[.int .i64 k, .int .i64 t, .int .i64 n, .slice none 0 0]) (.mk k t n []) :=
  ⟨none, 0, rfl, fun i hi => absurd hi (Nat.not_lt_zero i)⟩
theorem known_ok : okC 3 (.mk 1 0 3 []) = true := by decide +kernel
theorem known_lay : layT (.mk 1 0 3 []) = [4, 0, 12, 0] := by decide +kernel
theorem known_enc (w : World) : Calls Try.prog 21 #[.agg #[.int .i64 1, .int .i64 0, .int .i64 3, .slice none 0 0]] w fun e w' => ∃ u, e = .returned (.tuple #[u, .int .i64 0]) ∧ OwnB w.heap.size u (Bs [4, 0, 12, 0]) w' ∧ Below w.heap.size w w' := by
  have h := code_EncodeCall 1 (.mk 1 0 3 []) _ w rdC0
  have e1 : (if okC 3 (.mk 1 0 3 []) then (0 : Int) else 1) = 0 := by rw [known_ok]; rfl
  have e2 : (if okC 3 (.mk 1 0 3 []) then layT (.mk 1 0 3 []) else []) = [4, 0, 12, 0] := by rw [known_ok, known_lay]; rfl
  rw [e1, e2] at h
  exact h
set_option maxHeartbeats 1000000 in
set_option maxRecDepth 100000 in
theorem law_known (w : World) : Calls Try.prog 19 #[] w fun e w' => e = .returned (.bool true) ∧ Below w.heap.size w w' := by
  have hE := run_buildE2 11 2
  have hb256 : ∀ b ∈ ([4, 0, 12, 0] : List Nat), b < 256 := by decide
  have HE := Lib.hid (code_IsExt11 (exHd [11, 2, 0, 0, 0, 0, 0] rfl) 0 2 0 0 0 0 rfl)
  have HC := Lib.hid (known_enc w)
  go_enter Try.func19, Try.ntmps19
  have hst : ((strN [4, 0, 12, 0]).toList == [4, 0, 12, 0]) = true := by rw [strN_toList]; rfl
  go_wp2_with (first
    | (go_at_call 21; refine HC.out.mono ?_; rintro e w1 ⟨u, rfl, ho, hb⟩; have hstr := run_str ho.reads hb256; have H1 := Lib.hid hb; clear ho hb)
    | (go_at_call 16; refine (HE.out _).mono ?_; rintro e w2 ⟨rfl, hb⟩; have H2 := Lib.hid (H1.out.trans (hb.mono H1.out.size)); clear hb)
    | fail)
  go_ret
  exact ⟨by rfl, H2.out⟩
end Go.Proofs.Ytbndegkgpoemnaa
end

section
namespace Go.Proofs.Ytbndegkgpoemnaa
open Go.RowKit
set_option linter.unusedVariables false
set_option linter.unusedSimpArgs false

set_option maxRecDepth 100000 in
set_option maxHeartbeats 4000000 in
theorem law_size (d : Nat) : ∀ (c : Cl) (v : Value) (w : World), RdC w d v c → LenC c → Calls Try.prog 10 #[v] w fun e w' => (∃ r : Int, e = .returned (.int .i64 r)) ∧ Below w.heap.size w w' := by
  induction d with
  | zero => intro c v w h; exact h.elim
  | succ d ih =>
  intro c v w hrd hlen
  obtain ⟨d', ao, cap, hd, rfl, hkids⟩ := hrd.open
  obtain rfl : d' = d := by omega
  obtain ⟨hl1, hl2⟩ := (lenC_iff c).1 hlen
  obtain ⟨k, hk⟩ : ∃ k, k = c.k := ⟨_, rfl⟩
  obtain ⟨t, ht⟩ : ∃ t, t = c.t := ⟨_, rfl⟩
  obtain ⟨n, hn⟩ : ∃ n, n = c.n := ⟨_, rfl⟩
  obtain ⟨l, hl⟩ : ∃ l, l = c.kids := ⟨_, rfl⟩
  rw [← hk, ← ht, ← hn, ← hl]
  rw [← hl] at hkids hl1 hl2
  obtain ⟨m, hm⟩ : ∃ m, m = l.length := ⟨_, rfl⟩
  rw [← hm] at hl1 ⊢
  have hmI : (m : Int) ≤ 9223372036854775807 := Int.le_trans (Int.ofNat_le.2 hl1) (by decide +kernel)
  obtain ⟨W, hW⟩ : ∃ W, W = w.alloc (.cells #[.int .i64 k, .int .i64 t, .int .i64 n, .slice ao m cap] 28) := ⟨_, rfl⟩
  have hB : Below w.heap.size w W := by rw [hW]; exact (Below.refl _ w).alloc (Nat.le_refl _) _
  have g1 := World.alloc_heap_new w (.cells #[.int .i64 k, .int .i64 t, .int .i64 n, .slice ao m cap] 28)
  rw [← hW] at g1
  obtain ⟨cb, hcb⟩ : ∃ cb, cb = w.heap.size := ⟨_, rfl⟩
  rw [← hcb] at g1
  have a3 : W.cell? ⟨cb, 3, none⟩ = some (.slice ao m cap) := by rw [World.cell?, g1]; rfl
  have HRD := Lib.hid (RdCs.below hkids hB)
  have HB := Lib.hid hB
  have HM := Lib.hid (And.intro hm hl2)
  have IH := Lib.hid ih
  have HCB := Lib.hid (show cb < W.heap.size by rw [hW, hcb]; simp)
  clear hk ht hn hl hrd hlen hkids hl1 hl2 hm g1 hB ih hd
  go_enter Try.func10, Try.ntmps10
  go_upto_region 1 with fail
  rw [← hW, ← hcb]
  clear hW hcb
  go_wp2_with fail
  go_loopw [3, 4] (fun r i wr => ∃ (q : Int) (j : Nat), j ≤ m ∧ r = .int .i64 q ∧ i = .int .i64 j ∧ Below W.heap.size W wr) (fun _ i _ => m - (intOf i).toNat)
  case atStart => exact ⟨_, 0, by omega, rfl, rfl, Below.refl _ _⟩
  case round =>
    obtain ⟨q, j, hj, rfl, rfl, hb⟩ := hrel
    have HBW := Lib.hid hb
    have b3 : wr.cell? ⟨cb, 3, none⟩ = some (.slice ao m cap) := (World.cell?_of_block (a := ⟨cb, 3, none⟩) (hb.block cb HCB.out)).trans a3
    clear a3
    by_cases hin : j < m ∧ q < 300
    · obtain ⟨hlt, hq⟩ := hin
      have hlt' : (j : Int) < m := by omega
      have hjl : j < l.length := by rw [← HM.out.1]; exact hlt
      obtain ⟨kb, ko, vs, rfl, hkb, hrg, hrd⟩ := HRD.out j hjl
      have hrg2 : wr.rangeAt kb (ko + j * 4) vs := rangeAt_keep hrg (hb.block kb hkb)
      have hrd2 : RdC wr d' (.agg vs.toArray) l[j] := RdC.below hb hrd
      have hcall := IH.out l[j] _ wr hrd2 (HM.out.2 _ (List.getElem_mem hjl))
      obtain ⟨a4, c4, e4⟩ := hrd2.cells
      obtain ⟨c1, c2, c3, c5, e5⟩ : ∃ c1 c2 c3 c5, vs = [.int .i64 c1, .int .i64 c2, .int .i64 c3, .slice a4 c5 c4] := ⟨_, _, _, _, e4⟩
      clear e4
      subst e5
      have HCA := Lib.hid hcall
      have HRG := Lib.hid hrg2
      clear hkb hrg hrd hrg2 hrd2 hcall hb hjl
      go_wp2_with (first
        | (refine wpl_loadC _ rfl rfl rfl HRG.out rfl ?_)
        | (go_at_call 10; refine HCA.out.mono ?_; rintro e w1 ⟨⟨r, rfl⟩, hb⟩; have H1 := Lib.hid (HBW.out.trans (hb.mono HBW.out.size)); clear hb)
        | fail)
      go_roundw
      case rel => exact ⟨_, j + 1, by omega, rfl, by go_num, H1.out⟩
      case measure => simp [intOf]; omega
    · have hex : (¬ (j : Int) < m) ∨ ((j : Int) < m ∧ ¬ q < 300) := by omega
      clear hin hb hj
      rcases hex with h1 | ⟨h1, h2⟩
      all_goals go_wp2_with fail
      all_goals exact bodyPost_ret (v := .int .i64 q) (by simp [results, Try.results10, go_sem]) rfl ⟨⟨_, rfl⟩, HB.out.trans (HBW.out.mono HB.out.size)⟩
end Go.Proofs.Ytbndegkgpoemnaa
end

section
namespace Go.Proofs.Ytbndegkgpoemnaa
open Go.RowKit
set_option linter.unusedVariables false
set_option linter.unusedSimpArgs false

theorem okC_mono : ∀ (q : Nat) (c : Cl), okC q c = true → okC (q + 1) c = true := by
  intro q
  induction q with
  | zero => intro c h; unfold okC at h ⊢; rw [h]; rfl
  | succ q ih =>
    intro c h
    unfold okC at h ⊢
    rw [Bool.or_eq_true] at h ⊢
    rcases h with h | h
    · exact .inl h
    · rw [Bool.and_eq_true] at h ⊢
      refine .inr ⟨h.1, ?_⟩
      rw [List.all_eq_true] at h ⊢
      exact fun x hx => ih x (h.2 x hx)
theorem okC_batch {l : List Cl} {m : Nat} (hm : m = l.length) (h : 1 ≤ m ∧ m ≤ 4) : okC 3 (.mk 5 0 0 l) = l.all (okC 2) := by
  rw [okC_5k rfl]
  show ((0 : Int) == 0 && (0 : Int) == 0 && decide (1 ≤ l.length ∧ l.length ≤ 4) && l.all (okC 2)) = _
  rw [← hm, decide_eq_true h]; simp
theorem okC_batch_no {l : List Cl} {m j : Nat} (hm : m = l.length) (h : 1 ≤ m ∧ m ≤ 4) (hj : j < l.length) (hk : okC 3 l[j] = false) : okC 3 (.mk 5 0 0 l) = false := by
  rw [okC_batch hm h]
  refine all_of_take hj ?_
  cases e : okC 2 l[j] with
  | false => rfl
  | true => rw [okC_mono 2 _ e] at hk; cases hk
theorem enc_bad {d : Nat} {c : Cl} {v : Value} {w : World} (hrd : RdC w d v c) (h : okC 3 c = false) : Calls Try.prog 21 #[v] w fun e w' => ∃ u, e = .returned (.tuple #[u, .int .i64 1]) ∧ Below w.heap.size w w' := by
  refine (code_EncodeCall d c v w hrd).mono ?_
  rw [h]
  rintro e w' ⟨u, he, -, hb⟩
  exact ⟨u, he, hb⟩
theorem enc_good {d : Nat} {c : Cl} {v : Value} {w : World} (hrd : RdC w d v c) (h : okC 3 c = true) : Calls Try.prog 21 #[v] w fun e w' => ∃ u, e = .returned (.tuple #[u, .int .i64 0]) ∧ OwnB w.heap.size u (Bs (layT c)) w' ∧ Below w.heap.size w w' := by
  refine (code_EncodeCall d c v w hrd).mono ?_
  rw [h]
  exact fun e w' h => h
theorem numsL_lt (l : List Int) : ∀ c ∈ numsL l, c < 256 := by
  induction l with
  | nil => simp [numsL]
  | cons n l ih =>
    intro c hc
    rw [numsL, List.mem_append] at hc
    exact hc.elim (numL_lt _ c) (ih c)
mutual
theorem layT_lt : ∀ (c : Cl), ∀ b ∈ layT c, b < 256
  | .mk k t n l => by
    intro b hb
    rw [layT, List.mem_append] at hb
    exact hb.elim (numsL_lt _ b) (laysT_lt l b)
theorem laysT_lt : ∀ (l : List Cl), ∀ b ∈ laysT l, b < 256
  | [] => by intro b hb; simp [laysT] at hb
  | c :: l => by
    intro b hb
    rw [laysT, List.mem_append] at hb
    exact hb.elim (rowL_lt _ (layT_lt c) b) (laysT_lt l b)
end
theorem laysT_bound : ∀ (l : List Cl), l.all (okC 3) = true → (laysT l).length ≤ l.length * 3825 := by
  intro l hl
  induction l with
  | nil => simp [laysT]
  | cons x l ihl =>
    rw [List.all_cons, Bool.and_eq_true] at hl
    rw [laysT, List.length_append, List.length_cons, Nat.add_mul]
    have h3 := rowL_length (layT x)
    have h5 := okC3_len hl.1
    have h6 := ihl hl.2
    omega
theorem ownB_later {B : Nat} {v : Value} {l : List Value} {w w' : World} (h : OwnB B v l w) (hb : Below w.heap.size w w') : OwnB B v l w' := OwnB.ofC h (Nat.le_refl _) (fun k hk => hb.block k (World.ownsRow.lt h k hk).2)
set_option maxRecDepth 100000 in
set_option maxHeartbeats 4000000 in
theorem codeNests_walk (l : List Cl) (ao : Option Addr) (cap d m : Nat) (w : World) (hm : m = l.length) (hrd : RdCs w d ao l) (hl : ∀ c ∈ l, LenC c) (hmx : l.length ≤ maxLen) :
    Calls Try.prog 9 #[.slice ao m cap] w fun e w' => e = .returned (.bool true) ∧ Below w.heap.size w w' := by
  go_enter Try.func9, Try.ntmps9
  by_cases hin : 1 ≤ m ∧ m ≤ 4
  · have h1 : ¬ (m : Int) < 1 := by omega
    have h2 : ¬ 4 < (m : Int) := by omega
    have hm4 : m ≤ 4 := hin.2
    have HB0 := Lib.hid (show RdC w (d + 1) (.agg #[.int .i64 5, .int .i64 0, .int .i64 0, .slice ao m cap]) (.mk 5 0 0 l) from ⟨ao, cap, by rw [hm]; rfl, hrd⟩)
    have HM := Lib.hid (And.intro hm (And.intro hin hl))
    have HRD := Lib.hid hrd
    have hri := rdI_lit w [5, 0, 0, (m : Int)] #[.int .i64 5, .int .i64 0, .int .i64 0, .int .i64 m] 3 (by intro i hi; match i, hi with | 0, _ => rfl | 1, _ => rfl | 2, _ => rfl | 3, _ => rfl)
    have hN := ref_Nums _ _ _ hri (by simp)
    have HN := Lib.hid (show Calls Try.prog 25 #[.slice (some ⟨w.heap.size, 0, none⟩) 4 4] (w.alloc (.cells #[.int .i64 5, .int .i64 0, .int .i64 0, .int .i64 m] 3)) _ from hN)
    clear hin hm hrd hl hmx hri hN
    go_wp2_with (first
      | (go_at_call 25; refine HN.out.mono ?_; rintro e w1 ⟨v1, rfl, ho1, hb1, hs1⟩; have H1 := Lib.hid (And.intro (OwnB.ofC ho1 (S' := w.heap.size) (by simp) (fun _ _ => rfl)) (((Below.refl _ w).alloc (Nat.le_refl _) _).trans (hb1.mono (by simp)))); clear ho1 hb1 hs1)
      | fail)
    go_loopw [3, 4, 5, 6] (fun u i b e wr => ∃ j : Nat, j ≤ m ∧ i = .int .i64 j ∧ OwnB w.heap.size u (Bs (numsL [5, 0, 0, m] ++ laysT (l.take j))) wr ∧ (l.take j).all (okC 3) = true ∧ Below w.heap.size w wr) (fun _ i _ _ _ => m - (intOf i).toNat)
    case atStart => exact ⟨0, by omega, rfl, by rw [List.take_zero]; simpa [laysT] using H1.out.1, rfl, H1.out.2⟩
    case round =>
      obtain ⟨j, hj, rfl, ho, hall, hb⟩ := hrel
      have HR := Lib.hid (And.intro ho (And.intro hall hb))
      have HRB := Lib.hid ho.reads
      clear ho hall H1
      by_cases hlt : j < m
      · have hlt' : (j : Int) < m := by omega
        have hjl : j < l.length := by rw [← HM.out.1]; exact hlt
        obtain ⟨kb, ko, vs, rfl, hkb, hrg, hrd⟩ := HRD.out j hjl
        have hrg2 : wr.rangeAt kb (ko + j * 4) vs := rangeAt_keep hrg (hb.block kb hkb)
        have hrd2 : RdC wr d (.agg vs.toArray) l[j] := RdC.below hb hrd
        have hat := all_take (p := okC 3) hjl
        have hlay := laysT_take l hjl
        have hno := okC_batch_no HM.out.1 HM.out.2.1 hjl
        have hkl := HM.out.2.2 _ (List.getElem_mem hjl)
        obtain ⟨K, hK⟩ : ∃ K, K = l[j] := ⟨_, rfl⟩
        rw [← hK] at hrd2 hat hlay hno hkl
        clear hK hrd
        have hsz := law_size d K _ wr hrd2 hkl
        obtain ⟨a4, c4, e4⟩ := hrd2.cells
        obtain ⟨c1, c2, c3, c5, e5⟩ : ∃ c1 c2 c3 c5, vs = [.int .i64 c1, .int .i64 c2, .int .i64 c3, .slice a4 c5 c4] := ⟨_, _, _, _, e4⟩
        clear e4
        subst e5
        have HK := Lib.hid (And.intro hrg2 (And.intro hrd2 (Nat.lt_of_lt_of_le hkb hb.size)))
        have HSZ := Lib.hid hsz
        have HA := Lib.hid (And.intro hat (And.intro hlay hno))
        clear hkb hrg hrg2 hrd2 hsz hb hjl hat hlay hno hkl
        go_upto_if 34 with (first
          | (refine wpl_loadC _ rfl rfl rfl HK.out.1 rfl ?_)
          | (go_at_call 10; refine HSZ.out.mono ?_; rintro e w2 ⟨⟨r, rfl⟩, hb⟩; have H2 := Lib.hid (And.intro hb (HR.out.2.2.trans (hb.mono HR.out.2.2.size))); clear hb)
          | fail)
        by_cases hr : 100 ≤ r
        · go_wp2_with fail
          exact bodyPost_ret (v := .bool true) (by simp [results, Try.results9, go_sem]) rfl ⟨rfl, H2.out.2⟩
        · have hK2 := RdC.below H2.out.1 HK.out.2.1
          have hrg3 := rangeAt_keep HK.out.1 (H2.out.1.block kb HK.out.2.2)
          have HK2 := Lib.hid (And.intro hK2 hrg3)
          clear hK2 hrg3
          have hcel : ∀ W2, Below w2.heap.size w2 W2 → W2.cell? ⟨kb, ko + j * 4, none⟩ = some (.int .i64 c1) ∧ W2.cell? ⟨kb, ko + j * 4 + 1, none⟩ = some (.int .i64 c2) ∧ W2.cell? ⟨kb, ko + j * 4 + 2, none⟩ = some (.int .i64 c3) ∧ W2.cell? ⟨kb, ko + j * 4 + 3, none⟩ = some (.slice a4 c5 c4) := fun W2 hb => by
            have h := rangeAt_keep HK2.out.2 (hb.block kb (Nat.lt_of_lt_of_le HK.out.2.2 H2.out.1.size))
            exact ⟨h 0 _ rfl, h 1 _ rfl, h 2 _ rfl, h 3 _ rfl⟩
          have HCEL := Lib.hid hcel
          clear hcel
          cases hq : okC 3 K with
          | false =>
            have HQ := Lib.hid hq
            have hbat : ∀ W2, Below w2.heap.size w2 W2 → Calls Try.prog 21 #[.agg #[.int .i64 5, .int .i64 0, .int .i64 0, .slice (some ⟨kb, ko, none⟩) m cap]] W2 fun e w' => ∃ u, e = .returned (.tuple #[u, .int .i64 1]) ∧ Below W2.heap.size W2 w' := fun W2 hb => enc_bad (RdC.below (H2.out.2.trans (hb.mono H2.out.2.size)) HB0.out) (HA.out.2.2 hq)
            have HBAT := Lib.hid hbat
            have href : ∀ W2, Below w2.heap.size w2 W2 → Calls Try.prog 20 #[.agg #[.int .i64 c1, .int .i64 c2, .int .i64 c3, .slice a4 c5 c4]] W2 fun e w' => e = .returned (.bool false) ∧ Below W2.heap.size W2 w' := fun W2 hb => by
              have h := ref_IsCall d K _ W2 (RdC.below hb HK2.out.1)
              rw [hq] at h
              exact h
            have HREF := Lib.hid href
            clear hbat href hq
            have tok : True := trivial
            go_wp2_with (first
              | (refine wpl_loadC _ rfl rfl rfl HK2.out.2 rfl ?_)
              | (go_at_call 21; have _t := tok; refine (enc_bad HK2.out.1 HQ.out).mono ?_; rintro e w3 ⟨u3, rfl, hb⟩; have H3 := Lib.hid hb; clear hb tok)
              | (go_at_call 21; refine (HBAT.out _ H3.out).mono ?_; rintro e w4 ⟨u4, rfl, hb⟩; have hb4 := H3.out.trans (hb.mono H3.out.size); obtain ⟨q0, q1, q2, q3⟩ := HCEL.out w4 hb4; have H4 := Lib.hid hb4; clear hb hb4)
              | (go_at_call 20; refine (HREF.out _ H4.out).mono ?_; rintro e w5 ⟨rfl, hb⟩; have H5 := Lib.hid (H4.out.trans (hb.mono H4.out.size)); clear hb)
              | (go_at_call 19; refine (law_known _).mono ?_; rintro e w9 ⟨rfl, hb⟩; have H9 := Lib.hid (H5.out.trans (hb.mono H5.out.size)); clear hb)
              | fail)
            go_ret
            exact ⟨rfl, H2.out.2.trans (H9.out.mono H2.out.2.size)⟩
          | true =>
            have HQ := Lib.hid hq
            clear hq
            have hlk := okC3_len HQ.out
            have hlb := laysT_bound _ HR.out.2.1
            rw [List.length_take] at hlb
            have hnb := numsL_length [5, 0, 0, (m : Int)]
            simp only [List.length_cons, List.length_nil] at hnb
            have hrw := rowL_length (layT K)
            have hlen : (numsL [5, 0, 0, (m : Int)] ++ laysT (l.take j)).length + (rowL (layT K)).length ≤ 1099511627776 := by rw [List.length_append]; omega
            have hlk2 : (layT K).length ≤ 1000000000 := by omega
            have hasc : numsL [5, 0, 0, (m : Int)] ++ laysT (l.take j) ++ rowL (layT K) = numsL [5, 0, 0, (m : Int)] ++ laysT (l.take (j + 1)) := by rw [HA.out.2.1, List.append_assoc]
            have HL := Lib.hid (And.intro hlen (And.intro hlk2 hasc))
            clear hlk hlb hnb hrw hlen hlk2 hasc
            go_wp2_with (first
              | (refine wpl_loadC _ rfl rfl rfl HK2.out.2 rfl ?_)
              | (go_at_call 21; refine (enc_good HK2.out.1 HQ.out).mono ?_; rintro e w3 ⟨p3, rfl, ho, hb⟩; have HO3 := Lib.hid ho.reads; have H3 := Lib.hid hb; clear ho hb)
              | (go_at_call 26; refine (ref_Row p3 _ w3 HO3.out HL.out.2.1).mono ?_; rintro e w4 ⟨r4, rfl, ho4, hb4, hs4⟩; have HR4 := Lib.hid ho4.reads; have hb42 := H2.out.1.trans ((H3.out.trans (hb4.mono H3.out.size)).mono H2.out.1.size); have H4 := Lib.hid (And.intro (ownB_later HR.out.1 hb42) (HR.out.2.2.trans (hb42.mono HR.out.2.2.size))); clear ho4 hb4 hs4 hb42)
              | (at_builtin; refine wp_app_B (B := w.heap.size) (v := u3) (xs := numsL [5, 0, 0, (m : Int)] ++ laysT (l.take j)) (l := rowL (layT K)) rfl rfl rfl rfl H4.out.1 HR4.out HL.out.1 H4.out.2.size ?_; rw [HL.out.2.2]; intro v5 w5 ho5 hb5 hs5 hg5; have H5 := Lib.hid (And.intro ho5 (H4.out.2.trans hb5)); clear ho5 hb5 hs5 hg5)
              | fail)
            go_roundw
            case rel => exact ⟨j + 1, by omega, by go_num, H5.out.1, by rw [HA.out.1, HR.out.2.1, HQ.out]; rfl, H5.out.2⟩
            case measure => simp [intOf]; omega
      · obtain rfl : j = m := by omega
        have hge : ¬ (j : Int) < j := by omega
        have htk : l.take j = l := List.take_of_length_le (by rw [← HM.out.1]; exact Nat.le_refl _)
        have hall := HR.out.2.1
        have hrb := HRB.out
        rw [htk] at hall hrb
        have hbr := HR.out.2.2
        have hB := RdC.below hbr HB0.out
        have hlt256 : ∀ b ∈ numsL [5, 0, 0, (j : Int)] ++ laysT l, b < 256 := by
          intro b hb
          rw [List.mem_append] at hb
          exact hb.elim (numsL_lt _ b) (laysT_lt l b)
        have hlay : layT (.mk 5 0 0 l) = numsL [5, 0, 0, (j : Int)] ++ laysT l := by rw [layT, HM.out.1]
        have href := fun W2 (hb : Below wr.heap.size wr W2) => ref_IsCall (d + 1) (.mk 5 0 0 l) _ W2 (RdC.below hb hB)
        obtain ⟨X, hX⟩ : ∃ X, X = numsL [5, 0, 0, (j : Int)] ++ laysT l := ⟨_, rfl⟩
        rw [← hX] at hlay hlt256 hrb
        have hst : ((strN X).toList == (strN X).toList) = true := by simp
        have HBB := Lib.hid hbr
        have HLT := Lib.hid hlt256
        have HX := Lib.hid hrb
        clear hlt htk hj hb hall hbr hX HR HRB hrb hlt256
        cases hq : okC 3 (.mk 5 0 0 l) with
        | false =>
          have HE := Lib.hid (enc_bad hB hq)
          simp only [hq] at href
          have HF := Lib.hid href
          clear href hq hB hlay
          go_wp2_with (first
            | (go_at_call 21; refine HE.out.mono ?_; rintro e w3 ⟨p3, rfl, hb⟩; have H3 := Lib.hid hb; clear hb)
            | (go_at_call 20; refine (HF.out _ H3.out).mono ?_; rintro e w4 ⟨rfl, hb⟩; have H4 := Lib.hid (H3.out.trans (hb.mono H3.out.size)); clear hb)
            | (go_at_call 19; refine (law_known _).mono ?_; rintro e w9 ⟨rfl, hb⟩; have H9 := Lib.hid (H4.out.trans (hb.mono H4.out.size)); clear hb)
            | fail)
          go_ret
          exact ⟨rfl, HBB.out.trans (H9.out.mono HBB.out.size)⟩
        | true =>
          have he := enc_good hB hq
          rw [hlay] at he
          have HE := Lib.hid he
          simp only [hq] at href
          have HF := Lib.hid href
          clear href hq hB hlay he
          go_wp2_with (first
            | (go_at_call 21; refine HE.out.mono ?_; rintro e w3 ⟨p3, rfl, ho, hb⟩; have HO3 := Lib.hid ho.reads; have H3 := Lib.hid hb; clear ho hb)
            | (go_at_call 20; refine (HF.out _ H3.out).mono ?_; rintro e w4 ⟨rfl, hb⟩; have hs1 := run_str (HO3.out.below hb) HLT.out; have hs2 := run_str ((HX.out.below H3.out).below hb) HLT.out; have H4 := Lib.hid (H3.out.trans (hb.mono H3.out.size)); clear hb)
            | (go_at_call 19; refine (law_known _).mono ?_; rintro e w9 ⟨rfl, hb⟩; have H9 := Lib.hid (H4.out.trans (hb.mono H4.out.size)); clear hb)
            | fail)
          go_ret
          exact ⟨rfl, HBB.out.trans (H9.out.mono HBB.out.size)⟩
  · have hex : (m : Int) < 1 ∨ (¬ (m : Int) < 1 ∧ 4 < (m : Int)) := by omega
    clear hin hm hrd hl hmx
    rcases hex with h1 | ⟨h1, h2⟩
    all_goals go_wp2_with fail
    all_goals exact bodyPost_ret (v := .bool true) (by simp [results, Try.results9, go_sem]) rfl ⟨rfl, Below.refl _ _⟩
end Go.Proofs.Ytbndegkgpoemnaa
end

section
namespace Go.Proofs.Ytbndegkgpoemnaa
open Go.RowKit
set_option linter.unusedVariables false
set_option linter.unusedSimpArgs false

/-- A kind of struct: its type, its rows' type, its cells. -/
structure RowTy (P : Program) (α : Type) where
  T : TypeId
  S : TypeId
  k : Nat
  f : α → List Value
  len : ∀ x, (f x).length = k
  one : ∀ x, ∀ u ∈ f x, u.oneCell' = true
  pos : 0 < k
  small : k ≤ 1000
  slice : P.underlying S = some (.slice T)
  info : ∃ i0 z b, P.info? T = some i0 ∧ i0.zero = some (.agg z) ∧ i0.size = k ∧ z.size = k ∧ i0.bytes = b ∧ b ≤ 8000
  row : ∃ d, P.underlying T = some d ∧ d.isRow = true

section
variable {P : Program} {α : Type} (r : RowTy P α)
def RowTy.all (xs : List α) : List Value := xs.flatMap r.f
theorem RowTy.all_nil : r.all [] = [] := rfl
theorem RowTy.all_one (x : α) : r.all [x] = r.f x := by simp [RowTy.all]
theorem RowTy.all_cons (x : α) (xs : List α) : r.all (x :: xs) = r.f x ++ r.all xs := by simp [RowTy.all]
theorem RowTy.all_append (a b : List α) : r.all (a ++ b) = r.all a ++ r.all b := by simp [RowTy.all]
theorem RowTy.all_len : ∀ xs : List α, (r.all xs).length = xs.length * r.k
  | [] => by simp [RowTy.all]
  | x :: xs => by rw [r.all_cons, List.length_append, r.len, RowTy.all_len xs, List.length_cons, Nat.add_mul, Nat.one_mul, Nat.add_comm]
theorem RowTy.all_ones (xs : List α) : ∀ u ∈ r.all xs, u.oneCell' = true := by
  intro u hu
  obtain ⟨t, -, h⟩ := List.mem_flatMap.1 hu
  exact r.one t u h
theorem RowTy.all_drop (xs : List α) (j : Nat) : (r.all xs).drop (j * r.k) = r.all (xs.drop j) := by
  by_cases h : j ≤ xs.length
  · have e : r.all xs = r.all (xs.take j) ++ r.all (xs.drop j) := by rw [← r.all_append, List.take_append_drop]
    have hl : (r.all (xs.take j)).length = j * r.k := by rw [r.all_len, List.length_take, Nat.min_eq_left h]
    rw [e, ← hl, List.drop_left]
  · have h1 : xs.length * r.k ≤ j * r.k := Nat.mul_le_mul_right _ (by omega)
    rw [List.drop_of_length_le (by rw [r.all_len]; exact h1), List.drop_of_length_le (by omega)]; rfl
theorem RowTy.all_at {xs : List α} {i : Nat} (hi : i < xs.length) {j : Nat} (hj : j < r.k) : (r.all xs)[i * r.k + j]? = (r.f xs[i])[j]? := by
  have h1 : (r.all xs)[i * r.k + j]? = ((r.all xs).drop (i * r.k))[j]? := by rw [List.getElem?_drop]
  rw [h1, r.all_drop, List.drop_eq_getElem_cons hi, r.all_cons, List.getElem?_append_left (by rw [r.len]; exact hj)]
theorem RowTy.sizeT : (P.info? r.T).map (·.size) = some r.k := by
  obtain ⟨i0, z, b, h1, h2, h3, _⟩ := r.info
  rw [h1]; simp [h3]

/-- Structs that the call owns. -/
def OwnR (B : Nat) (v : Value) (xs : List α) (w : World) : Prop := w.ownsRow B r.T r.k v xs.length (r.all xs)
/-- Structs that are only read. -/
def RdR (w : World) (v : Value) (xs : List α) : Prop :=
  (v = .slice none 0 0 ∧ xs = []) ∨ ∃ b off cap, v = .slice (some ⟨b, off, none⟩) xs.length cap ∧ xs.length ≤ cap ∧ b < w.heap.size ∧ w.rangeAt b off (r.all xs)
variable {r} {w w' : World} {v : Value} {xs : List α} {B : Nat}
theorem RdR.lenOf (h : RdR r w v xs) : ∃ ao cap, v = .slice ao xs.length cap := by
  rcases h with ⟨rfl, rfl⟩ | ⟨b, off, cap, rfl, -⟩
  · exact ⟨none, 0, rfl⟩
  · exact ⟨_, cap, rfl⟩
theorem rangeAt_block {b o : Nat} {cs : List Value} (h : w.rangeAt b o cs) (hk : w'.heap[b]? = w.heap[b]?) : w'.rangeAt b o cs := fun j u hj =>
  (World.cell?_of_block (a := ⟨b, o + j, none⟩) hk).trans (h j u hj)
theorem RdR.keep (h : RdR r w v xs) (hs : w.heap.size ≤ w'.heap.size) (hk : ∀ k, v.ownBlock = some k → w'.heap[k]? = w.heap[k]?) : RdR r w' v xs := by
  rcases h with h | ⟨b, off, cap, rfl, hl, hb, hr⟩
  · exact .inl h
  · exact .inr ⟨b, off, cap, rfl, hl, Nat.lt_of_lt_of_le hb hs, rangeAt_block hr (hk b rfl)⟩
theorem RdR.below (h : RdR r w v xs) (hb : Below w.heap.size w w') : RdR r w' v xs := by
  rcases h with h | ⟨b, off, cap, rfl, hl, hlt, hr⟩
  · exact .inl h
  · exact .inr ⟨b, off, cap, rfl, hl, Nat.lt_of_lt_of_le hlt hb.size, rangeAt_block hr (hb.block b hlt)⟩
theorem RdR.at {ao : Option Addr} {n cap : Nat} (h : RdR r w (.slice ao n cap) xs) {i : Nat} (hi : i < xs.length) :
    ∃ b off, ao = some ⟨b, off, none⟩ ∧ w.rangeAt b (off + i * r.k) (r.f xs[i]) ∧ b < w.heap.size := by
  rcases h with ⟨-, h2⟩ | ⟨b, off, c, h1, -, hlt, h3⟩
  · rw [h2] at hi; simp at hi
  · injection h1 with e1
    refine ⟨b, off, e1, fun j u hj => ?_, hlt⟩
    have hjk : j < r.k := by
      have := (List.getElem?_eq_some_iff.1 hj).1
      rwa [r.len] at this
    have := h3 (i * r.k + j) u (by rw [r.all_at hi hjk]; exact hj)
    rwa [show off + (i * r.k + j) = off + i * r.k + j by omega] at this
theorem OwnR.block (h : OwnR r B v xs w) {k : Nat} (hk : v.ownBlock = some k) : B ≤ k ∧ k < w.heap.size := World.ownsRow.lt h k hk
theorem OwnR.reads (h : OwnR r B v xs w) : RdR r w v xs := by
  have h0 := h
  obtain ⟨h1, h2⟩ := h
  rcases h2 with ⟨rfl, hn⟩ | ⟨g, cap, cur, rfl, hb, hg, hn, hm, hs, ht⟩
  · exact .inl ⟨rfl, List.eq_nil_of_length_eq_zero hn⟩
  · refine .inr ⟨g, 0, cap, rfl, hn, (h0.block rfl).2, fun j u hj => ?_⟩
    have : cur.toList[j]? = some u := by
      rw [← ht] at hj
      have := (List.getElem?_eq_some_iff.1 hj).1
      rw [List.length_take] at this
      rwa [List.getElem?_take_of_lt (by omega)] at hj
    rw [Nat.zero_add, World.cell?, hg]
    simpa using this
theorem OwnR.lenOf (h : OwnR r B v xs w) : ∃ ao cap, v = .slice ao xs.length cap := h.reads.lenOf
theorem OwnR.of {S' : Nat} (h : OwnR r B v xs w) (hS : S' ≤ B) (hk : ∀ k, v.ownBlock = some k → w'.heap[k]? = w.heap[k]?) : OwnR r S' v xs w' := by
  obtain ⟨h1, h2⟩ := h
  refine ⟨h1, ?_⟩
  rcases h2 with h2 | ⟨g, cap, cur, rfl, hb, hg, hn, hm, hs, ht⟩
  · exact .inl h2
  · exact .inr ⟨g, cap, cur, rfl, by omega, (hk g rfl).trans hg, hn, hm, hs, ht⟩
theorem OwnR.nil (w : World) (B : Nat) : OwnR r B (.slice none 0 0) [] w := World.ownsRow_nil w B _ r.k
/-- One more, appended. -/
theorem run_appR {ub : Nat} {y : α} (hown : OwnR r B v xs w) (hr : w.rangeAt ub 0 (r.f y)) (hlen : xs.length ≤ 1000000) (hB : B ≤ w.heap.size) (ty : TypeId) :
    ∃ v' w', (Builtin.append_ #[r.S, r.S] ty #[v, .slice (some ⟨ub, 0, none⟩) 1 1]).run P w = .ok v' w' ∧ OwnR r B v' (xs ++ [y]) w' ∧ w.grownBy w' v.ownBlock ∧ (v'.ownBlock = v.ownBlock ∨ v'.ownBlock = some w.heap.size) ∧ v' ≠ .slice none 0 0 := by
  obtain ⟨i0, z, b, h1, h2, h3, h4, h5, h6⟩ := r.info
  have hby : (xs.length + 1) * b ≤ 140737488355328 := Nat.le_trans (Nat.mul_le_mul (Nat.succ_le_succ hlen) h6) (by omega)
  obtain ⟨v', w', e1, e2, e3, e4, e5⟩ := run_append_own_at (P := P) (w := w) B r.S ty r.T i0 (.agg z) r.k b r.slice h1 h2 h3 h5 h4 r.pos v _ _ hown ⟨ub, 0, none⟩ 1 1 (r.f y) (by rw [r.len, Nat.one_mul])
    (fun j u hj => by rw [Addr.add_mid]; exact hr j u hj) (r.one y) (by unfold maxLen; omega) hby hB
  refine ⟨v', w', e1, ?_, e3, e5, fun e => by have := (e4.1 e).2; omega⟩
  unfold OwnR
  rw [r.all_append, r.all_one, List.length_append]
  exact e2
section
variable {F : Fence} {nF : Nat} {ops : Array Oper} {rest : List Oper} {o : Oper} {a : Act} {Q : Exit → Act → World → Prop}
theorem wplIn_appR {s x : Operand} {ub : Nat} {y : α} (hgd : o.guard = none) (ho : o.op = .call { callee := .builtin .append, args := #[s, x], argTypes := #[r.S, r.S] }) (hs : a.eval s = v) (hx : a.eval x = .slice (some ⟨ub, 0, none⟩) 1 1)
    (hown : OwnR r B v xs w) (hr : w.rangeAt ub 0 (r.f y)) (hlen : xs.length ≤ 1000000) (hB : B ≤ w.heap.size)
    (h : ∀ v' w', OwnR r B v' (xs ++ [y]) w' → w.grownBy w' v.ownBlock → (v'.ownBlock = v.ownBlock ∨ v'.ownBlock = some w.heap.size) → v' ≠ .slice none 0 0 → wpListIn F nF P ops Q rest (a.put o.dst v') w') : wpListIn F nF P ops Q (o :: rest) a w := by
  obtain ⟨v', w', hrun, h1, h2, h3, h4⟩ := run_appR hown hr hlen hB o.type
  refine wpListIn_plain hgd fun K hK => ?_
  unfold Oper.wpIn
  refine ⟨by simp [Oper.about, ho, resolve, Target.leads, Sem.run_pure], ?_⟩
  rw [Oper.semAt_plain F _ _ (by rw [ho]; intro c hc'; cases hc')]
  simp [execOp, ho, resolve, invoke, builtin, hs, hx, hrun, Result.andThen]
  exact hK _ _ (h v' w' h1 h2 h3 h4)
theorem wpl_appR {s x : Operand} {ub : Nat} {y : α} (hgd : o.guard = none) (ho : o.op = .call { callee := .builtin .append, args := #[s, x], argTypes := #[r.S, r.S] }) (hs : a.eval s = v) (hx : a.eval x = .slice (some ⟨ub, 0, none⟩) 1 1)
    (hown : OwnR r B v xs w) (hr : w.rangeAt ub 0 (r.f y)) (hlen : xs.length ≤ 1000000) (hB : B ≤ w.heap.size)
    (h : ∀ v' w', OwnR r B v' (xs ++ [y]) w' → w.grownBy w' v.ownBlock → (v'.ownBlock = v.ownBlock ∨ v'.ownBlock = some w.heap.size) → v' ≠ .slice none 0 0 → wpList P ops Q rest (a.put o.dst v') w') : wpList P ops Q (o :: rest) a w := by
  obtain ⟨v', w', hrun, h1, h2, h3, h4⟩ := run_appR hown hr hlen hB o.type
  refine wpList_plain hgd fun K hK => ?_
  unfold Oper.wp
  simp [execOp, ho, resolve, invoke, builtin, hs, hx, hrun, Result.andThen]
  exact hK _ _ (h v' w' h1 h2 h3 h4)
theorem run_loadR {b k : Nat} {t : α} (hr : w.rangeAt b k (r.f t)) : (Instr.loadAt r.T (.pointer (some ⟨b, k, none⟩))).run P w = .ok (.agg (r.f t).toArray) w := by
  obtain ⟨d, h1, h2⟩ := r.row
  exact run_loadAt_mid w b k r.T (r.f t) d hr h1 h2 (by rw [r.len]; exact r.sizeT)
theorem wplIn_loadR {b k : Nat} {t : α} (x : Operand) (hgd : o.guard = none) (ho : o.op = .load r.T x) (hx : a.eval x = .pointer (some ⟨b, k, none⟩)) (hr : w.rangeAt b k (r.f t))
    (h : wpListIn F nF P ops Q rest (a.put o.dst (.agg (r.f t).toArray)) w) : wpListIn F nF P ops Q (o :: rest) a w := by
  refine wpListIn_plain hgd fun K hK => ?_
  unfold Oper.wpIn
  refine ⟨by simp [Oper.about, ho], ?_⟩
  rw [Oper.semAt_plain F _ _ (by rw [ho]; intro c hc'; cases hc')]
  unfold execOp
  simp only [ho, hx, Sem.run_bind, Sem.run_pure, run_loadR hr, Result.andThen_ok]
  exact hK _ _ h
theorem wpl_loadR {b k : Nat} {t : α} (x : Operand) (hgd : o.guard = none) (ho : o.op = .load r.T x) (hx : a.eval x = .pointer (some ⟨b, k, none⟩)) (hr : w.rangeAt b k (r.f t))
    (h : wpList P ops Q rest (a.put o.dst (.agg (r.f t).toArray)) w) : wpList P ops Q (o :: rest) a w := by
  obtain ⟨d, h1, h2⟩ := r.row
  exact wpList_load_mid hgd r.T x ho b k hx (r.f t) d hr h1 h2 (by rw [r.len]; exact r.sizeT) h
/-- A new one's place. -/
theorem wplIn_allocR {ty : TypeId} (ht : ty = r.T) (hgd : o.guard = none) (ho : o.op = .alloc ty)
    (h : ∀ C : Array Value, C.size = r.k → wpListIn F nF P ops Q rest (a.put o.dst (.pointer (some ⟨w.heap.size, 0, none⟩))) (w.alloc (.cells C ty))) : wpListIn F nF P ops Q (o :: rest) a w := by
  subst ht
  obtain ⟨i0, z, b, hi, hz0, h3, h4, _⟩ := r.info
  refine wpListIn_plain hgd fun K hK => ?_
  unfold Oper.wpIn
  refine ⟨by simp [Oper.about, ho], ?_⟩
  rw [Oper.semAt_plain F _ _ (by rw [ho]; intro c hc'; cases hc')]
  have := h z h4
  unfold execOp
  simp [ho, Instr.alloc, zeroValue, typeInfo, hi, hz0, newVar, newRow, Value.cells, go_sem]
  exact hK _ _ this
theorem wplIn_storeR {ty : TypeId} {b : Nat} {t : α} {C : Array Value} (x y : Operand) (ht : ty = r.T) (hgd : o.guard = none) (ho : o.op = .store ty x y) (hx : a.eval x = .pointer (some ⟨b, 0, none⟩)) (hy : a.eval y = .agg (r.f t).toArray) (hh : w.heap[b]? = some (.cells C ty (0, 0))) (hC : C.size = r.k)
    (h : wpListIn F nF P ops Q rest (a.put o.dst undef) (w.setRow b (r.f t).toArray)) : wpListIn F nF P ops Q (o :: rest) a w := by
  subst ht
  refine wpListIn_plain hgd fun K hK => ?_
  unfold Oper.wpIn
  refine ⟨by simp [Oper.about, ho], ?_⟩
  rw [Oper.semAt_plain F _ _ (by rw [ho]; intro c hc'; cases hc')]
  unfold execOp
  have hr : (Instr.storeAt r.T (.pointer (some ⟨b, 0, none⟩)) (.agg (r.f t).toArray)).run P w = .ok () (w.setRow b (r.f t).toArray) := by
    simp only [Instr.storeAt, Instr.sureAddr, Sem.run_bind, Sem.run_pure, Result.andThen_ok, run_storeVar_row w b r.T r.T C (r.f t).toArray hh (by rw [List.size_toArray, r.len]; exact r.sizeT) (by simp [r.len, hC]) (by rw [Array.all_eq_true_iff_forall_mem]; intro u hu; exact r.one t u (by simpa using hu))]
  simp only [ho, hx, hy, Sem.run_bind, Sem.run_pure, hr, Result.andThen_ok]
  exact hK _ _ h
end
theorem rangeAt_whole {b : Nat} {T : TypeId} {cs : List Value} (h : w.heap[b]? = some (.cells cs.toArray T (0, 0))) : w.rangeAt b 0 cs := fun j u hj => by
  rw [Nat.zero_add, World.cell?, h]
  simpa using hj
end
end Go.Proofs.Ytbndegkgpoemnaa
end

section
namespace Go.Proofs.Ytbndegkgpoemnaa
open Go.ChangeShapes Go.WideShapes Go.ChangeAt Go.RowKit Go.Deep
set_option linter.unusedVariables false
set_option linter.unusedSimpArgs false
set_option linter.constructorNameAsVariable false

theorem fits_u8sE : ∀ (n : Nat) (cs : List Value), Fits (List.replicate n (some .u8)) cs → ∃ l : List Nat, l.length = n ∧ cs = Bs l ∧ ∀ x ∈ l, x < 256
  | 0, cs, h => ⟨[], rfl, by rw [fits_nil h]; rfl, fun x hx => absurd hx List.not_mem_nil⟩
  | n + 1, cs, h => by
    obtain ⟨m, vs, rfl, hw, hr⟩ := fits_int (ls := List.replicate n (some .u8)) h
    obtain ⟨l, h1, rfl, h3⟩ := fits_u8sE n vs hr
    have hm : 0 ≤ m ∧ m < 256 := by
      have h := hw
      simp [Lit.wf, IntKind.min, IntKind.max, IntKind.signed, IntKind.bits] at h
      omega
    refine ⟨m.toNat :: l, by simp [h1], by simp [Bs, Int.toNat_of_nonneg hm.1], fun x hx => ?_⟩
    rcases List.mem_cons.1 hx with rfl | hx
    · omega
    · exact h3 x hx
theorem cellsOf_hash : Try.prog.cellsOf 23 = 32 := by kernel_rfl
theorem cellsOf_vote : Try.prog.cellsOf 25 = 6 := by kernel_rfl
theorem cellsOf_ext : Try.prog.cellsOf 30 = 49 := by kernel_rfl
theorem extFields : ∃ fs, Try.prog.underlying 30 = some (.struct fs) ∧ fs.size = 10 ∧ (∀ i, i < 7 → ∃ f, fs[i]? = some f ∧ f.type = 3 ∧ f.offset = i) ∧
    (∃ f, fs[7]? = some f ∧ f.type = 23 ∧ f.offset = 7) ∧ (∃ f, fs[8]? = some f ∧ f.type = 25 ∧ f.offset = 39) ∧ (∃ f, fs[9]? = some f ∧ f.type = 28 ∧ f.offset = 45) := by
  refine ⟨_, Try.underlying30, rfl, fun i hi => ?_, ⟨_, rfl, rfl, rfl⟩, ⟨_, rfl, rfl, rfl⟩, ⟨_, rfl, rfl, rfl⟩⟩
  match i, hi with
  | 0, _ => exact ⟨_, rfl, rfl, rfl⟩
  | 1, _ => exact ⟨_, rfl, rfl, rfl⟩
  | 2, _ => exact ⟨_, rfl, rfl, rfl⟩
  | 3, _ => exact ⟨_, rfl, rfl, rfl⟩
  | 4, _ => exact ⟨_, rfl, rfl, rfl⟩
  | 5, _ => exact ⟨_, rfl, rfl, rfl⟩
  | 6, _ => exact ⟨_, rfl, rfl, rfl⟩
theorem drop_one {α : Type} (l : List α) (k n : Nat) : l.drop k = (l.drop k).take n ++ l.drop (k + n) := by rw [← List.drop_drop, List.take_append_drop]
section
variable {H : Type} {enc : TypeId × Value → H} {w : World} {base : Nat} {held : Bool}
theorem open_extF (fuel : Nat) (cs : List Value) (x : DataW H × List MemPlace) (h : DataW.trod enc Try.prog w base (fun _ => true) held fuel 30 cs = some x) :
    ∃ (e : Ex) (c : Cl) (d : Nat), cs = ec e ∧ RdC w d (.agg #[.int .i64 e.ck, .int .i64 e.ct, .int .i64 e.cn, .slice e.ca e.m e.cc]) c ∧ LenC c ∧ ∀ b ∈ e.sum, b < 256 := by
  obtain ⟨fs, hu, hfs, hI, ⟨f7, g7, t7, o7⟩, ⟨f8, g8, t8, o8⟩, ⟨f9, g9, t9, o9⟩⟩ := extFields
  obtain ⟨xs, n, rfl, -, hlen, hxl, hf⟩ := DataW.trod_struct hu h
  rw [cellsOf_ext] at hlen
  have hint : ∀ i, i < 7 → ∃ k, (cs.drop i).take 1 = [.int .i64 k] := fun i hi => by
    obtain ⟨f, g, t, o⟩ := hI i hi
    have a := hf i f g
    rw [t, o, cellsOf_int] at a
    obtain ⟨y, b⟩ := trod_field a (by omega)
    obtain ⟨k, e, -, -⟩ := DataW.trod_int Try.underlying3 b
    exact ⟨k, e⟩
  obtain ⟨k0, e0⟩ := hint 0 (by omega)
  obtain ⟨k1, e1⟩ := hint 1 (by omega)
  obtain ⟨k2, e2⟩ := hint 2 (by omega)
  obtain ⟨k3, e3⟩ := hint 3 (by omega)
  obtain ⟨k4, e4⟩ := hint 4 (by omega)
  obtain ⟨k5, e5⟩ := hint 5 (by omega)
  obtain ⟨k6, e6⟩ := hint 6 (by omega)
  have a7 := hf 7 f7 g7
  have a8 := hf 8 f8 g8
  have a9 := hf 9 f9 g9
  rw [t7, o7, cellsOf_hash] at a7
  rw [t8, o8, cellsOf_vote] at a8
  rw [t9, o9, cellsOf_call] at a9
  obtain ⟨y7, b7⟩ := trod_field a7 (by omega)
  obtain ⟨y8, b8⟩ := trod_field a8 (by omega)
  obtain ⟨y9, b9⟩ := trod_field a9 (by omega)
  have hl7 : leaves Try.prog 4 23 = some (List.replicate 32 (some .u8)) := by kernel_rfl
  have hl8 : leaves Try.prog 4 25 = some [some .i64, none, some .i64, some .i64, some .i64, some .i64] := by kernel_rfl
  obtain ⟨sm, hs, es, hb⟩ := fits_u8sE 32 _ (flat_fits 4 _ _ hl7 _ _ _ b7)
  have hv := flat_fits 4 _ _ hl8 _ _ _ b8
  obtain ⟨v0, r0, q0, -, hv⟩ := fits_int hv
  obtain ⟨v1, r1, q1, hv⟩ := fits_bool hv
  obtain ⟨v2, r2, q2, -, hv⟩ := fits_int hv
  obtain ⟨v3, r3, q3, -, hv⟩ := fits_int hv
  obtain ⟨v4, r4, q4, -, hv⟩ := fits_int hv
  obtain ⟨v5, r5, q5, -, hv⟩ := fits_int hv
  have q6 := fits_nil hv
  rw [q6] at q5
  rw [q5] at q4
  rw [q4] at q3
  rw [q3] at q2
  rw [q2] at q1
  rw [q1] at q0
  obtain ⟨c, hrd, hlc⟩ := open_callF _ _ _ b9
  obtain ⟨ao, cap, hvs⟩ := hrd.cells
  refine ⟨⟨[k0, k1, k2, k3, k4, k5, k6], rfl, sm, hs, ⟨v0, v1, v2, v3, v4, v5⟩, c.k, c.t, c.n, ao, cap, c.kids.length⟩, c, _, ?_, by rw [hvs] at hrd; exact hrd, hlc, hb⟩
  have z : cs.drop 49 = [] := by rw [List.drop_eq_nil_iff]; omega
  have s9 := drop_one cs 45 4
  rw [hvs, z] at s9
  have s8 := drop_one cs 39 6
  rw [q0, s9] at s8
  have s7 := drop_one cs 7 32
  rw [es, s8] at s7
  have s6 := drop_one cs 6 1
  rw [e6, s7] at s6
  have s5 := drop_one cs 5 1
  rw [e5, s6] at s5
  have s4 := drop_one cs 4 1
  rw [e4, s5] at s4
  have s3 := drop_one cs 3 1
  rw [e3, s4] at s3
  have s2 := drop_one cs 2 1
  rw [e2, s3] at s2
  have s1 := drop_one cs 1 1
  rw [e1, s2] at s1
  have s0 := drop_one cs 0 1
  rw [e0, s1, List.drop_zero] at s0
  rw [s0]
  rfl
end
theorem open_ext {H : Type} {enc : TypeId × Value → H} {w : World} {base : Nat} {held : Bool} {fs : Array Field} {v : Value} {d : DataW H} {p : List MemPlace} {r : Reach} {b0 : Nat} (ht : Try.prog.underlying 30 = some (.struct fs)) (hv : Value.okWide Try.prog w r b0 30 v) (h : DataW.Trod enc Try.prog w base (fun _ => true) held 30 v d p) :
    ∃ (e : Ex) (c : Cl) (d : Nat), v = .agg (ec e).toArray ∧ RdC w d (.agg #[.int .i64 e.ck, .int .i64 e.ct, .int .i64 e.cn, .slice e.ca e.m e.cc]) c ∧ LenC c ∧ ∀ b ∈ e.sum, b < 256 := by
  have q := trod_struct1 (H := H) (enc := enc) (w := w) (base := base) (held := held) (v := v) (d := d) (p := p) (r := r) (b0 := b0) (t := 30) ht
  have q2 : ∃ (fuel : Nat) (cs : List Value), v = .agg cs.toArray ∧ DataW.trod enc Try.prog w base (fun _ => true) held fuel 30 cs = some (d, p) := by
    revert hv h
    with_reducible exact q
  clear q hv h
  obtain ⟨fuel, cs, rfl, hf⟩ := q2
  obtain ⟨e, c, d', h1, h2, h3, h4⟩ := open_extF fuel _ _ hf
  exact ⟨e, c, d', by rw [h1], h2, h3, h4⟩
end Go.Proofs.Ytbndegkgpoemnaa
end

section
namespace Go.Proofs.Ytbndegkgpoemnaa
open Go.RowKit
set_option linter.unusedVariables false
set_option linter.unusedSimpArgs false

theorem rowL_takeR {p : List Nat} (hp : p.length ≤ 4611686018427387904) (t : List Nat) : takeL (rowL p ++ t) = some (p.length, sizeN p.length) := by
  unfold rowL; rw [List.append_assoc, takeL_num hp]
theorem cutL_rowR {p : List Nat} (hp : p.length ≤ 4611686018427387904) (t : List Nat) : cutL (rowL p ++ t) = some (p, (rowL p).length) := by
  unfold cutL
  rw [rowL_takeR hp]
  have hl := numL_size p.length
  have hle : ¬ (p.length > (rowL p ++ t).length - sizeN p.length) := by simp only [rowL, List.length_append]; omega
  simp only [if_neg hle, Option.some.injEq, Prod.mk.injEq]
  refine ⟨?_, by simp only [rowL, List.length_append]; omega⟩
  unfold rowL
  rw [List.append_assoc, ← hl, List.drop_left, List.take_left]
/-- A number off the bytes, and what is left. -/
def rdN (l : List Nat) : Nat × List Nat := match takeL l with
  | some (n, s) => (n, l.drop s)
  | none => (0, l)
/-- A row off the bytes, and what is left. -/
def rdR (l : List Nat) : List Nat × List Nat := match cutL l with
  | some (p, s) => (p, l.drop s)
  | none => ([], l)
theorem rdN_num {n : Nat} (hn : n ≤ 4611686018427387904) (t : List Nat) : rdN (numL n ++ t) = (n, t) := by
  unfold rdN
  rw [takeL_num hn]
  simp only
  rw [← numL_size, List.drop_left]
theorem rdR_row {p : List Nat} (hp : p.length ≤ 4611686018427387904) (t : List Nat) : rdR (rowL p ++ t) = (p, t) := by
  unfold rdR
  rw [cutL_rowR hp]
  simp only
  rw [List.drop_left]
theorem rdN_rest (l : List Nat) : ∃ s, (rdN l).2 = l.drop s := by
  unfold rdN
  cases takeL l with
  | none => exact ⟨0, by simp⟩
  | some x => exact ⟨x.2, rfl⟩
theorem cutL_some {l p : List Nat} {s : Nat} (h : cutL l = some (p, s)) : ∃ q n, p = (l.drop q).take n ∧ s ≤ l.length ∧ 1 ≤ s := by
  unfold cutL at h
  cases ht : takeL l with
  | none => rw [ht] at h; simp at h
  | some x =>
    obtain ⟨n, q⟩ := x
    rw [ht] at h
    have hq := takeL_le ht
    simp only at h
    split at h
    · simp at h
    · simp only [Option.some.injEq, Prod.mk.injEq] at h
      obtain ⟨rfl, rfl⟩ := h
      exact ⟨q, n, rfl, by omega, by omega⟩
theorem rdR_rest (l : List Nat) : (∃ s, (rdR l).2 = l.drop s) ∧ ∃ q n, (rdR l).1 = (l.drop q).take n := by
  unfold rdR
  cases h : cutL l with
  | none => exact ⟨⟨0, by simp⟩, 0, 0, by simp⟩
  | some x =>
    obtain ⟨p, s⟩ := x
    obtain ⟨q, n, h1, -, -⟩ := cutL_some h
    exact ⟨⟨s, rfl⟩, q, n, h1⟩
/-- Bytes: each is below 256, and there are not too many. -/
def ByL (l : List Nat) : Prop := (∀ c ∈ l, c < 256) ∧ l.length ≤ 1000000000
theorem ByL.drop {l : List Nat} (h : ByL l) (s : Nat) : ByL (l.drop s) := ⟨fun c hc => h.1 c (List.mem_of_mem_drop hc), by have := h.2; rw [List.length_drop]; omega⟩
theorem ByL.take {l : List Nat} (h : ByL l) (s : Nat) : ByL (l.take s) := ⟨fun c hc => h.1 c (List.mem_of_mem_take hc), by have := h.2; rw [List.length_take]; omega⟩
theorem ByL.rdN {l : List Nat} (h : ByL l) : ByL (rdN l).2 := by obtain ⟨s, e⟩ := rdN_rest l; rw [e]; exact h.drop s
theorem ByL.rdR {l : List Nat} (h : ByL l) : ByL (rdR l).2 := by obtain ⟨⟨s, e⟩, -⟩ := rdR_rest l; rw [e]; exact h.drop s
theorem ByL.row {l : List Nat} (h : ByL l) : ByL (Proofs.Ytbndegkgpoemnaa.rdR l).1 := by obtain ⟨-, q, n, e⟩ := rdR_rest l; rw [e]; exact (h.drop q).take n
theorem ByL.nil : ByL [] := ⟨fun c hc => by simp at hc, by simp⟩
def readKs (f : List Nat → Cl) : Nat → List Nat → List Cl
  | 0, _ => []
  | m + 1, l => f (rdR l).1 :: readKs f m (rdR l).2
def restKs : Nat → List Nat → List Nat
  | 0, l => l
  | m + 1, l => restKs m (rdR l).2
theorem readKs_snoc (f : List Nat → Cl) : ∀ (m : Nat) (l : List Nat), readKs f (m + 1) l = readKs f m l ++ [f (rdR (restKs m l)).1]
  | 0, l => rfl
  | m + 1, l => by
    rw [readKs, readKs_snoc f m, readKs, restKs]; rfl
theorem restKs_snoc : ∀ (m : Nat) (l : List Nat), restKs (m + 1) l = (rdR (restKs m l)).2
  | 0, l => rfl
  | m + 1, l => by rw [restKs, restKs_snoc m, restKs]
theorem readKs_len (f : List Nat → Cl) : ∀ (m : Nat) (l : List Nat), (readKs f m l).length = m
  | 0, l => rfl
  | m + 1, l => by rw [readKs, List.length_cons, readKs_len f m]
theorem ByL.restKs {l : List Nat} (h : ByL l) : ∀ m, ByL (Proofs.Ytbndegkgpoemnaa.restKs m l)
  | 0 => h
  | m + 1 => by rw [restKs_snoc]; exact (ByL.restKs h m).rdR
/-- The four numbers of a call's head, and what is left. -/
def rd4 (l : List Nat) : List Nat := (rdN (rdN (rdN (rdN l).2).2).2).2
def readC : Nat → List Nat → Cl
  | 0, l => .mk (rdN l).1 (rdN (rdN l).2).1 (rdN (rdN (rdN l).2).2).1 []
  | d + 1, l => .mk (rdN l).1 (rdN (rdN l).2).1 (rdN (rdN (rdN l).2).2).1 (readKs (readC d) (min (rdN (rdN (rdN (rdN l).2).2).2).1 4) (rd4 l))
theorem readKs_laysT (q : Nat) (f : List Nat → Cl) : ∀ (l : List Cl) (t : List Nat), (∀ c ∈ l, f (layT c) = c ∧ (layT c).length ≤ 4611686018427387904) → readKs f l.length (laysT l ++ t) = l
  | [], t, _ => rfl
  | c :: l, t, h => by
    rw [List.length_cons, readKs, laysT, List.append_assoc, rdR_row (h c (by simp)).2]
    rw [(h c (by simp)).1, readKs_laysT q f l t (fun x hx => h x (List.mem_cons_of_mem _ hx))]
theorem held_id {n : Int} (h0 : 0 ≤ n) (h1 : n ≤ 1073741824) : heldN n = n.toNat ∧ (n.toNat : Int) = n := by unfold heldN; omega
theorem okC_small : ∀ {q : Nat} {c : Cl}, okC q c = true → (0 ≤ c.k ∧ c.k ≤ 5) ∧ (0 ≤ c.t ∧ c.t ≤ 9) ∧ (0 ≤ c.n ∧ c.n ≤ 1073741824) ∧ c.kids.length ≤ 4 ∧ ((q = 0 ∨ c.k ≠ 5) → c.kids = []) ∧ ∀ q', q = q' + 1 → c.kids.all (okC q') = true := by
  intro q c h
  have leaf : leafOk c.k c.t c.n c.kids.length → (0 ≤ c.k ∧ c.k ≤ 5) ∧ (0 ≤ c.t ∧ c.t ≤ 9) ∧ (0 ≤ c.n ∧ c.n ≤ 1073741824) ∧ c.kids.length = 0 := by
    unfold leafOk; omega
  cases q with
  | zero =>
    simp only [okC, decide_eq_true_eq] at h
    obtain ⟨h1, h2, h3, h4⟩ := leaf h
    exact ⟨h1, h2, h3, by omega, fun _ => List.length_eq_zero_iff.1 h4, fun q' e => by omega⟩
  | succ q =>
    simp only [okC, Bool.or_eq_true, decide_eq_true_eq, Bool.and_eq_true] at h
    rcases h with h | ⟨h, h'⟩
    · obtain ⟨h1, h2, h3, h4⟩ := leaf h
      have e := List.length_eq_zero_iff.1 h4
      exact ⟨h1, h2, h3, by omega, fun _ => e, fun q' _ => by rw [e]; rfl⟩
    · simp only [headOk, decide_eq_true_eq, Bool.and_eq_true, beq_iff_eq] at h
      refine ⟨by omega, by omega, by omega, by omega, fun e => by omega, fun q' e => ?_⟩
      obtain rfl : q = q' := by omega
      exact h'
theorem layT_bound {q : Nat} {c : Cl} (hq : q ≤ 3) (h : okC q c = true) : (layT c).length ≤ 100000 := by
  have h3 : okC 3 c = true := by
    have : q = 0 ∨ q = 1 ∨ q = 2 ∨ q = 3 := by omega
    rcases this with rfl | rfl | rfl | rfl
    · exact okC_mono _ _ (okC_mono _ _ (okC_mono _ _ h))
    · exact okC_mono _ _ (okC_mono _ _ h)
    · exact okC_mono _ _ h
    · exact h
  exact Nat.le_trans (okC3_len h3) (by omega)
theorem readC_layT : ∀ (q : Nat) (c : Cl), q ≤ 3 → okC q c = true → readC q (layT c) = c := by
  intro q
  induction q with
  | zero =>
    intro c hq h
    obtain ⟨hk, ht, hn, hl, h0, -⟩ := okC_small h
    have e0 := h0 (Or.inl rfl)
    obtain ⟨k1, k2⟩ := held_id hk.1 (by omega)
    obtain ⟨t1, t2⟩ := held_id ht.1 (by omega)
    obtain ⟨n1, n2⟩ := held_id hn.1 (by omega)
    rw [layT_eq, numsL, numsL, numsL, List.append_assoc, List.append_assoc, List.append_assoc, readC, k1, t1, n1]
    rw [rdN_num (by omega), rdN_num (by omega), rdN_num (by omega), k2, t2, n2]
    obtain ⟨k, t, n, l⟩ := c
    simp only [Cl.kids] at e0
    subst e0
    rfl
  | succ q ih =>
    intro c hq h
    obtain ⟨hk, ht, hn, hl, -, hkids⟩ := okC_small h
    have hall := hkids q rfl
    rw [List.all_eq_true] at hall
    obtain ⟨k1, k2⟩ := held_id hk.1 (by omega)
    obtain ⟨t1, t2⟩ := held_id ht.1 (by omega)
    obtain ⟨n1, n2⟩ := held_id hn.1 (by omega)
    obtain ⟨l1, l2⟩ := held_id (n := (c.kids.length : Int)) (by omega) (by omega)
    rw [layT_eq, numsL, numsL, numsL, numsL, List.append_assoc, List.append_assoc, List.append_assoc, List.append_assoc, readC, rd4, k1, t1, n1, l1]
    rw [rdN_num (by omega), rdN_num (by omega), rdN_num (by omega), rdN_num (by omega), k2, t2, n2]
    have hm : min ((c.kids.length : Int).toNat) 4 = c.kids.length := by omega
    simp only [numsL, List.nil_append]
    rw [hm]
    have e := readKs_laysT q (readC q) c.kids [] (fun x hx => ⟨ih x (by omega) (hall x hx), by have := layT_bound (by omega) (hall x hx); omega⟩)
    rw [List.append_nil] at e
    rw [e]
    obtain ⟨k, t, n, l⟩ := c
    rfl
end Go.Proofs.Ytbndegkgpoemnaa
end

section
namespace Go.Proofs.Ytbndegkgpoemnaa
open Go.RowKit
set_option linter.unusedVariables false
set_option linter.unusedSimpArgs false

/-- A reader at block b, with this left. -/
def RBx (w : World) (b : Nat) (v : Value) : Prop := w.heap[b]? = some (.cells #[v] 94 (0, 0))
theorem RBx.cell {w : World} {b : Nat} {v : Value} (h : RBx w b v) : w.cell? ⟨b, 0, none⟩ = some v := by simp [World.cell?, show w.heap[b]? = _ from h]
theorem RBx.frozen {w : World} {b : Nat} {v : Value} (h : RBx w b v) (i : Nat) : w.frozen? ⟨b, i, none⟩ = false := by simp [World.frozen?, show w.heap[b]? = _ from h]
theorem RBx.lt {w : World} {b : Nat} {v : Value} (h : RBx w b v) : b < w.heap.size := (Array.getElem?_eq_some_iff.1 h).1
theorem RBx.set {w : World} {b : Nat} {v : Value} (v' : Value) (h : RBx w b v) : RBx (w.setCell ⟨b, 0, none⟩ v') b v' := by
  obtain ⟨hlt, hk⟩ := Array.getElem?_eq_some_iff.1 h
  show (w.heap.modify b _)[b]? = _
  rw [Array.getElem?_eq_getElem (by rw [Array.size_modify]; exact hlt), Array.getElem_modify_self, hk]
  rfl
theorem RdB.tail {w : World} {v : Value} {l : List Nat} (h : RdB w v l) {s : Nat} (hs : s ≤ l.length) : ∃ ao cap, v = .slice ao l.length cap ∧ l.length ≤ cap ∧ ((s = cap ∧ l.drop s = []) ∨ (s ≠ cap ∧ ∃ a, ao = some a ∧ RdB w (.slice (some (a.add s)) (l.drop s).length (cap - s)) (l.drop s))) := by
  rcases h with ⟨rfl, rfl⟩ | ⟨⟨blk, off, spot⟩, cap, rfl, hcap, hcell⟩
  · exact ⟨none, 0, rfl, by simp, Or.inl ⟨by simp at hs; exact hs, by simp⟩⟩
  · refine ⟨some _, cap, rfl, hcap, ?_⟩
    by_cases hc : s = cap
    · exact Or.inl ⟨hc, List.drop_of_length_le (by omega)⟩
    · refine Or.inr ⟨hc, _, rfl, Or.inr ⟨_, _, rfl, by rw [List.length_drop]; omega, fun i hi => ?_⟩⟩
      rw [List.length_drop] at hi
      have h1 := hcell (s + i) (by omega)
      have e : ((⟨blk, off, spot⟩ : Addr).add s).add i = (⟨blk, off, spot⟩ : Addr).add (s + i) := by
        by_cases z1 : s = 0
        · subst z1; simp [Addr.add]
        · by_cases z2 : i = 0
          · subst z2; simp [Addr.add]
          · simp only [Addr.add, Nat.add_assoc, if_neg z1, if_neg z2, if_neg (show ¬ s + i = 0 by omega)]
      rw [e, h1]
      simp [List.getElem?_drop]
/-- How many bytes a number takes. -/
def takeS (l : List Nat) : Nat := match takeL l with
  | some (_, s) => s
  | none => 0
theorem takeS_le (l : List Nat) : takeS l ≤ l.length := by
  unfold takeS
  cases h : takeL l with
  | none => exact Nat.zero_le _
  | some x => exact (takeL_le h).1
theorem take_all (l : List Nat) : ∃ q, takeV (takeL l) = .returned (.tuple #[.int .i64 ((rdN l).1 : Nat), .int .i64 (takeS l : Nat), .bool q]) ∧ (rdN l).2 = l.drop (takeS l) := by
  unfold rdN takeS
  cases h : takeL l with
  | none => exact ⟨false, rfl, by simp⟩
  | some x => exact ⟨true, rfl, rfl⟩
theorem grown_set (w : World) (b i : Nat) (v : Value) : w.grownBy (w.setCell ⟨b, i, none⟩ v) (some b) :=
  ⟨rfl, rfl, rfl, by simp [World.setCell], fun k _ hk => heap_setCell_other _ _ _ _ (by show k ≠ b; exact fun e => hk (by rw [e]))⟩
theorem rd_none {w : World} {ao : Option Addr} {m c : Nat} (hm : m = 0) (hc : ao = none → c = 0) : RdB w (.slice ao m c) [] := by
  subst hm
  cases ao with
  | none => exact .inl ⟨by rw [hc rfl], rfl⟩
  | some a => exact .inr ⟨a, c, rfl, Nat.zero_le _, fun i hi => by simp at hi⟩
set_option maxHeartbeats 4000000 in
theorem code_number (rb : Nat) (v : Value) (l : List Nat) (w0 w : World) (h0 : Below w0.heap.size w0 w) (hr : RdB w0 v l) (hbx : RBx w rb v) (hb : ByL l) :
    Calls Try.prog 62 #[.pointer (some ⟨rb, 0, none⟩)] w fun e w' => e = .returned (.int .i64 ((rdN l).1 : Nat)) ∧ w.grownBy w' (some rb) ∧ ∃ v', RBx w' rb v' ∧ RdB w0 v' (rdN l).2 := by
  obtain ⟨s, hs⟩ : ∃ s, s = takeS l := ⟨_, rfl⟩
  have hsl : s ≤ l.length := by rw [hs]; exact takeS_le l
  obtain ⟨q, hq, hd⟩ := take_all l
  obtain ⟨n, hn⟩ : ∃ n, n = (rdN l).1 := ⟨_, rfl⟩
  rw [← hs] at hd
  rw [← hs, ← hn] at hq
  rw [hd, ← hn]
  obtain ⟨ao, cap, hv, hcap, ht⟩ := hr.tail hsl
  have hT := compact_Take v l w (hr.below h0) hb.1
  rw [hq] at hT
  obtain ⟨m, hm⟩ : ∃ m, m = l.length := ⟨_, rfl⟩
  rw [← hm] at hsl hcap hv
  subst hv
  have HT := Lib.hid hT
  have HX := Lib.hid hbx
  have c0 := hbx.cell
  have f0 := hbx.frozen 0
  have k1 : (0 : Int) ≤ (s : Int) := by omega
  have k2 : (s : Int) ≤ (m : Int) := by omega
  have k3 : (m : Int) ≤ (cap : Int) := by omega
  have k4 : (s : Int) ≤ (cap : Int) := by omega
  have hdl : (l.drop s).length = m - s := by rw [List.length_drop, hm]
  rw [hdl] at ht
  have HDL := Lib.hid hdl
  clear hs hq hd hn hT hbx hdl hm h0 hb hr hcap hsl
  rcases ht with ⟨hsc, hnil⟩ | ⟨hsc, a, rfl, htl⟩
  · have HN := Lib.hid hnil
    have hsc' : (cap = s) = True := by simp [hsc]
    have HSC := Lib.hid hsc
    have hms : m - s = 0 := by omega
    clear hnil hsc
    go_enter Try.func62, Try.ntmps62
    go_wp2_with (first
      | (go_at_call 77; refine HT.out.mono ?_; rintro e w1 ⟨rfl, hw⟩; rw [← hw]; clear hw w1)
      | fail)
    go_ret
    refine ⟨rfl, grown_set _ _ _ _, _, HX.out.set _, ?_⟩
    rw [HN.out]
    exact rd_none (by omega) (by have := HSC.out; omega)
  · have HN := Lib.hid htl
    have hsc' : (cap = s) = False := by simp; omega
    clear htl hsc
    go_enter Try.func62, Try.ntmps62
    go_wp2_with (first
      | (go_at_call 77; refine HT.out.mono ?_; rintro e w1 ⟨rfl, hw⟩; rw [← hw]; clear hw w1)
      | fail)
    go_ret
    exact ⟨rfl, grown_set _ _ _ _, _, HX.out.set _, HN.out⟩
/-- How many bytes a row takes. -/
def cutS (l : List Nat) : Nat := match cutL l with
  | some (_, s) => s
  | none => 0
theorem cutS_le (l : List Nat) : cutS l ≤ l.length := by
  unfold cutS
  cases h : cutL l with
  | none => exact Nat.zero_le _
  | some x =>
    obtain ⟨p, s⟩ := x
    obtain ⟨q, n, -, h1, -⟩ := cutL_some h
    exact h1
theorem cut_all {l : List Nat} {w : World} {e : Ending} {w' : World} (h : CutOwn (cutL l) w e w') : ∃ u q, e = .returned (.tuple #[u, .int .i64 (cutS l : Nat), .bool q]) ∧ OwnB w.heap.size u (Bs (rdR l).1) w' ∧ Below w.heap.size w w' := by
  obtain ⟨h1, h2, h3⟩ := h
  unfold rdR cutS
  cases hc : cutL l with
  | none => rw [hc] at h3; exact ⟨_, _, h3, World.ownsRow_nil w' _ _ 1, h1⟩
  | some x => rw [hc] at h3; obtain ⟨v, h4, h5⟩ := h3; exact ⟨v, true, h4, h5, h1⟩
theorem cut_rest (l : List Nat) : (rdR l).2 = l.drop (cutS l) := by
  unfold rdR cutS
  cases h : cutL l with
  | none => simp
  | some x => rfl
theorem below_set {w w1 : World} {b i : Nat} {v : Value} (h : Below w.heap.size w w1) : w.grownBy (w1.setCell ⟨b, i, none⟩ v) (some b) :=
  ⟨h.os, h.tape, h.output, by simp [World.setCell]; exact h.size, fun k hk hne => (heap_setCell_other _ _ _ _ (by show k ≠ b; exact fun e => hne (by rw [e]))).trans (h.block k hk)⟩
set_option maxHeartbeats 4000000 in
theorem code_row (rb : Nat) (v : Value) (l : List Nat) (w0 w : World) (h0 : Below w0.heap.size w0 w) (hr : RdB w0 v l) (hbx : RBx w rb v) (hb : ByL l) :
    Calls Try.prog 63 #[.pointer (some ⟨rb, 0, none⟩)] w fun e w' => ∃ u, e = .returned u ∧ OwnB w.heap.size u (Bs (rdR l).1) w' ∧ w.grownBy w' (some rb) ∧ ∃ v', RBx w' rb v' ∧ RdB w0 v' (rdR l).2 := by
  obtain ⟨s, hs⟩ : ∃ s, s = cutS l := ⟨_, rfl⟩
  have hsl : s ≤ l.length := by rw [hs]; exact cutS_le l
  have hd := cut_rest l
  rw [← hs] at hd
  rw [hd]
  obtain ⟨ao, cap, hv, hcap, ht⟩ := hr.tail hsl
  have hT : Calls Try.prog 78 #[v] w fun e w' => ∃ u q, e = .returned (.tuple #[u, .int .i64 (s : Nat), .bool q]) ∧ OwnB w.heap.size u (Bs (rdR l).1) w' ∧ Below w.heap.size w w' := by
    rw [hs]
    exact (compact_Cut v l w (hr.below h0) hb.1 hb.2).mono fun e w' h => cut_all h
  obtain ⟨p, hp⟩ : ∃ p, p = (rdR l).1 := ⟨_, rfl⟩
  rw [← hp] at hT ⊢
  obtain ⟨m, hm⟩ : ∃ m, m = l.length := ⟨_, rfl⟩
  rw [← hm] at hsl hcap hv
  subst hv
  have HT := Lib.hid hT
  have HX := Lib.hid hbx
  have hlt := hbx.lt
  have k1 : (0 : Int) ≤ (s : Int) := by omega
  have k2 : (s : Int) ≤ (m : Int) := by omega
  have k3 : (m : Int) ≤ (cap : Int) := by omega
  have k4 : (s : Int) ≤ (cap : Int) := by omega
  have hdl : (l.drop s).length = m - s := by rw [List.length_drop, hm]
  rw [hdl] at ht
  clear hs hd hp hT hbx hdl hm h0 hb hr hcap hsl
  have hc0 := HX.out.cell
  rcases ht with ⟨hsc, hnil⟩ | ⟨hsc, a, rfl, htl⟩
  · have HN := Lib.hid hnil
    have hsc' : (cap = s) = True := by simp [hsc]
    have HSC := Lib.hid hsc
    have hms : m - s = 0 := by omega
    clear hnil hsc
    go_enter Try.func63, Try.ntmps63
    go_wp2_with (first
      | (go_at_call 78; refine HT.out.mono ?_; rintro e w1 ⟨u, q, rfl, ho, hb⟩; have hx1 : RBx w1 rb _ := (hb.block rb hlt).trans HX.out; have c1 := hx1.cell; have f1 := hx1.frozen 0; have HX1 := Lib.hid hx1; have HB1 := Lib.hid hb; have HO := Lib.hid ho; clear hx1 hb ho)
      | fail)
    go_ret
    refine ⟨_, rfl, OwnB.ofC HO.out (Nat.le_refl _) (fun k hk => heap_setCell_other _ _ _ _ (by show k ≠ rb; have := (World.ownsRow.lt HO.out k hk).1; omega)), below_set HB1.out, _, HX1.out.set _, ?_⟩
    rw [HN.out]
    exact rd_none (by omega) (by have := HSC.out; omega)
  · have HN := Lib.hid htl
    have hsc' : (cap = s) = False := by simp; omega
    clear htl hsc
    go_enter Try.func63, Try.ntmps63
    go_wp2_with (first
      | (go_at_call 78; refine HT.out.mono ?_; rintro e w1 ⟨u, q, rfl, ho, hb⟩; have hx1 : RBx w1 rb _ := (hb.block rb hlt).trans HX.out; have c1 := hx1.cell; have f1 := hx1.frozen 0; have HX1 := Lib.hid hx1; have HB1 := Lib.hid hb; have HO := Lib.hid ho; clear hx1 hb ho)
      | fail)
    go_ret
    exact ⟨_, rfl, OwnB.ofC HO.out (Nat.le_refl _) (fun k hk => heap_setCell_other _ _ _ _ (by show k ≠ rb; have := (World.ownsRow.lt HO.out k hk).1; omega)), below_set HB1.out, _, HX1.out.set _, HN.out⟩
end Go.Proofs.Ytbndegkgpoemnaa
end

section
namespace Go.Proofs.Ytbndegkgpoemnaa
open Go.RowKit
attribute [local go_sem] Oper.semAt_some
set_option linter.unusedVariables false
set_option linter.unusedSimpArgs false

/-- So many numbers, each into its place. -/
def fillA : List Nat → List Nat → Array Value → Array Value × List Nat
  | [], l, C => (C, l)
  | p :: ps, l, C => fillA ps (rdN l).2 (C.setIfInBounds p (.int .i64 ((rdN l).1 : Nat)))
theorem fillA_snoc : ∀ (ps : List Nat) (p : Nat) (l : List Nat) (C : Array Value), fillA (ps ++ [p]) l C = ((fillA ps l C).1.setIfInBounds p (.int .i64 ((rdN (fillA ps l C).2).1 : Nat)), (rdN (fillA ps l C).2).2)
  | [], p, l, C => rfl
  | q :: ps, p, l, C => by
    rw [List.cons_append, fillA, fillA_snoc ps p]; rfl
theorem fillA_size : ∀ (ps : List Nat) (l : List Nat) (C : Array Value), (fillA ps l C).1.size = C.size
  | [], l, C => rfl
  | p :: ps, l, C => by rw [fillA, fillA_size ps]; simp
theorem fillA_by {l : List Nat} (h : ByL l) : ∀ (ps : List Nat) (C : Array Value), ByL (fillA ps l C).2
  | [], C => h
  | p :: ps, C => fillA_by h.rdN ps _
def ptrs (pb : Nat) (pos : List Nat) : List Value := pos.map fun p => Value.pointer (some ⟨pb, p, none⟩)
structure FillC (w0 : World) (N0 lb rb pb : Nat) (t : TypeId) (pos l : List Nat) (C : Array Value) (j : Nat) (W : World) (v : Value) : Prop where
  bx : Boxed W lb 108 (.pointer (some ⟨rb, 0, none⟩))
  rd : RBx W rb v
  by_ : RdB w0 v (fillA (pos.take j) l C).2
  at_ : W.heap[pb]? = some (.cells (fillA (pos.take j) l C).1 t (0, 0))
  old : Below w0.heap.size w0 W
  sz : N0 ≤ W.heap.size
def FillI (w0 : World) (N0 lb rb pb : Nat) (t : TypeId) (pos l : List Nat) (C : Array Value) (pre : List Value) (Φ : FP) (W : World) : Prop := (∀ k, ¬ Φ k) ∧ ∃ v, FillC w0 N0 lb rb pb t pos l C pre.length W v
theorem FillC.of {w0 : World} {N0 lb rb pb : Nat} {t : TypeId} {pos l : List Nat} {C : Array Value} {j : Nat} {W W' : World} {v : Value} (h : FillC w0 N0 lb rb pb t pos l C j W v) (h0 : w0.heap.size ≤ N0) (h1 : lb < N0) (h2 : rb < N0) (h3 : pb < N0) (hg : Grow W W') (hk : ∀ k, k < N0 → W'.heap[k]? = W.heap[k]?) : FillC w0 N0 lb rb pb t pos l C j W' v :=
  ⟨(hk lb h1).trans h.bx, (hk rb h2).trans h.rd, h.by_, (hk pb h3).trans h.at_, ⟨hg.os.trans h.old.os, hg.tape.trans h.old.tape, hg.output.trans h.old.output, Nat.le_trans h.old.size hg.size, fun k hk' => (hk k (by omega)).trans (h.old.block k hk')⟩, Nat.le_trans h.sz hg.size⟩
theorem FillI.stab {w0 : World} {N0 lb rb pb : Nat} {t : TypeId} {pos l : List Nat} {C : Array Value} (h0 : w0.heap.size ≤ N0) (h1 : lb < N0) (h2 : rb < N0) (h3 : pb < N0) : Stab N0 (FillI w0 N0 lb rb pb t pos l C) := by
  rintro pre Φ W ⟨hn, v, h⟩
  exact ⟨fun k hk => absurd hk (hn k), h.sz, fun W' hg hk => ⟨hn, v, h.of h0 h1 h2 h3 hg (fun k hk' => hk k (.inl hk'))⟩⟩
theorem enters_valuesR : ∀ args w, (callFunc 76 args).run Try.prog w = .ok (.enter 76 args) w := enters_of Try.func76 (by kernel_rfl) rfl
set_option maxHeartbeats 4000000 in
set_option maxRecDepth 100000 in
theorem code_fill (rb pb bx b cap : Nat) (t : TypeId) (pos l : List Nat) (C : Array Value) (v : Value) (w0 w : World) (h0 : Below w0.heap.size w0 w) (hr : RdB w0 v l) (hrd : RBx w rb v) (hb : ByL l) (hat : w.heap[pb]? = some (.cells C t (0, 0)))
    (hrp : rb ≠ pb) (hw0 : w0.heap.size ≤ rb ∧ w0.heap.size ≤ pb) (hpos : ∀ p ∈ pos, p < C.size)
    (hbx : w.cell? ⟨bx, 0, none⟩ = some (.slice (some ⟨b, 0, none⟩) (ptrs pb pos).length cap)) (hb1 : bx < w.heap.size ∧ bx ≠ rb ∧ bx ≠ pb) (hb2 : b < w.heap.size ∧ b ≠ rb ∧ b ≠ pb) (hrv : RowV w b (ptrs pb pos)) (hl : (ptrs pb pos).length ≤ 900) :
    Calls Try.prog 61 #[.pointer (some ⟨rb, 0, none⟩), .func (.func 76) #[] #[.pointer (some ⟨bx, 0, none⟩)]] w fun e w' => (∃ u, e = .returned u) ∧
      (Grow w w' ∧ ∀ k, k < w.heap.size → k ≠ rb → k ≠ pb → w'.heap[k]? = w.heap[k]?) ∧ ∃ v', RBx w' rb v' ∧ RdB w0 v' (fillA pos l C).2 ∧ w'.heap[pb]? = some (.cells (fillA pos l C).1 t (0, 0)) := by
  refine (callsIn_wide (n := 3)).1 ?_
  refine callsIn_of_wp_marks Try.func61 rfl trivial ?_ rfl
  simp only [Try.ntmps61, List.size_toArray, List.length_cons, List.length_nil, Nat.reduceAdd, Nat.reduceSub, Array.replicate_succ, Array.replicate_zero, List.push_toArray, List.append_toArray, List.nil_append, List.cons_append]
  have mixed : Try.prog.follows .mixedOrders = true := by kernel_rfl
  gi_wp2_with fail
  obtain ⟨w1, hw1⟩ : ∃ w1, w1 = w.alloc (.cells #[.pointer (some ⟨rb, 0, none⟩)] 108) := ⟨_, rfl⟩
  rw [← hw1]
  obtain ⟨lb, hlb⟩ : ∃ lb, lb = w.heap.size := ⟨_, rfl⟩
  have hB : Below w.heap.size w w1 := by rw [hw1]; exact (Below.refl _ w).alloc (Nat.le_refl _) _
  have hsz : w1.heap.size = lb + 1 := by rw [hw1, hlb]; simp
  have x0 : Boxed w1 lb 108 (.pointer (some ⟨rb, 0, none⟩)) := by rw [hw1, hlb]; exact Boxed.new w _ _
  have hrl := hrd.lt
  have hpl : pb < w.heap.size := (Array.getElem?_eq_some_iff.1 hat).1
  have hit := values_iter 1 bx b cap (ptrs pb pos) w hbx hrv hl (fun k => k = bx ∨ k = b) (Or.inl rfl) (Or.inr rfl)
  have i0 : FillI w0 w1.heap.size lb rb pb t pos l C [] (fun _ => False) w1 := ⟨fun _ h => h, v, x0, (hB.block rb hrl).trans hrd, hr, (hB.block pb hpl).trans hat, h0.trans (hB.mono h0.size), Nat.le_refl _⟩
  have HB1 := Lib.hid hB
  have l1 : lb < w1.heap.size := by omega
  have l2 : rb < w1.heap.size := by omega
  have l3 : pb < w1.heap.size := by omega
  have l4 : w0.heap.size ≤ w1.heap.size := by have := h0.size; have := hB.size; omega
  rw [← hlb]
  have HLB := Lib.hid hlb
  have HI0 := Lib.hid i0
  have HBY := Lib.hid hb
  have HPO := Lib.hid hpos
  have HN := Lib.hid (show lb ≠ rb ∧ lb ≠ pb by omega)
  clear hw1 hbx hrv hB hlb hr hrd hat hb i0 hpos h0 x0
  refine range_outer (n := 1) (gf := 76) (lb := #[.pointer (some ⟨bx, 0, none⟩)]) rfl enters_valuesR hit (Grow.of_below HB1.out) (fun k hk => ⟨by rcases hk with rfl | rfl <;> omega, HB1.out.block k (by rcases hk with rfl | rfl <;> omega)⟩) (fun _ => rfl)
    (fun k => k = rb ∨ k = pb) (by rintro k (rfl | rfl) <;> exact ⟨by omega, fun h => by omega⟩) (FillI w0 w1.heap.size lb rb pb t pos l C) (fun _ _ _ _ => False) (FillI.stab l4 l1 l2 l3) (fun c _ _ _ h => h.elim)
    HI0.out
    (fun x => { tmps := #[.pointer (some ⟨rb, 0, none⟩), .func (.func 76) #[] #[.pointer (some ⟨bx, 0, none⟩)], (.pointer (some ⟨lb, 0, none⟩)), undef, x, .func (.func 76) #[] #[.pointer (some ⟨bx, 0, none⟩)], x, undef, undef, undef, undef], defers := [] }) ?assign ?body ?done ?stop
  case assign =>
    intro l x W K hK
    gi_wp2
    exact hK
  case body =>
    rintro lp pre x Φ W hpx ⟨hn, v1, hI⟩ hl1 hΦ -
    have hlen := hpx.length_le
    have hx : (ptrs pb pos)[pre.length]? = some x := by
      have h1 := hpx.getElem (i := pre.length) (by simp)
      simp at h1
      rw [h1]; exact List.getElem?_eq_getElem _
    rw [List.length_append, List.length_singleton] at hlen
    obtain ⟨j, hj⟩ : ∃ j, j = pre.length := ⟨_, rfl⟩
    rw [← hj] at hI hx hlen
    have hjp : j < pos.length := by rw [ptrs, List.length_map] at hlen; omega
    obtain ⟨p, hp⟩ : ∃ p, p = pos[j] := ⟨_, rfl⟩
    have hxp : x = .pointer (some ⟨pb, p, none⟩) := by
      rw [ptrs, List.getElem?_map, List.getElem?_eq_getElem hjp] at hx
      simpa [hp] using hx.symm
    subst hxp
    have hpC : p < C.size := HPO.out p (by rw [hp]; exact List.getElem_mem _)
    have htk : pos.take (j + 1) = pos.take j ++ [p] := by rw [List.take_succ_eq_append_getElem hjp, ← hp]
    have hF := fillA_snoc (pos.take j) p l C
    rw [← htk] at hF
    have hbl := fillA_by HBY.out (pos.take j) C
    have hsc := fillA_size (pos.take j) l C
    obtain ⟨hbx, hrd, hby, hat, hold, hsz1⟩ := hI
    obtain ⟨L, hL⟩ : ∃ L, L = (fillA (pos.take j) l C).2 := ⟨_, rfl⟩
    obtain ⟨CC, hCC⟩ : ∃ CC, CC = (fillA (pos.take j) l C).1 := ⟨_, rfl⟩
    rw [← hL, ← hCC] at hF
    rw [← hL] at hby hbl
    rw [← hCC] at hat hsc
    have hpc : p < CC.size := by omega
    obtain ⟨u, hu⟩ : ∃ u, CC[p]? = some u := ⟨_, Array.getElem?_eq_getElem hpc⟩
    have hnum := code_number rb v1 L w0 W hold hby hrd hbl
    have c0 := hbx.cell
    have HNU := Lib.hid hnum
    have HJ := Lib.hid hj
    clear hj
    have HU := Lib.hid hu
    have HF := Lib.hid hF
    have HAT := Lib.hid hat
    have HBX := Lib.hid hbx
    have HOLD := Lib.hid hold
    have HSZ1 := Lib.hid hsz1
    have HNN := Lib.hid hn
    have HPHI := Lib.hid hΦ
    clear hx hp htk hF hbl hsc hbx hrd hby hat hold hsz1 hL hCC hnum hu hn hΦ hpx
    gi_wp2_with (first
      | (refine ⟨trivial, ?_⟩; gi_at_call 62; refine (CallsIn.inRound lp (callsIn_wide.2 HNU.out)).mono ?_; rintro e W2 ⟨rfl, hg, v2, hr2, hb2'⟩; have hat2 := (hg.block pb (Array.getElem?_eq_some_iff.1 HAT.out).1 (by simp; omega)).trans HAT.out; have cp : W2.cell? ⟨pb, p, none⟩ = some u := by { rw [World.cell?, hat2]; exact HU.out }; have fp : W2.frozen? ⟨pb, p, none⟩ = false := frozen_of_row _ _ _ _ _ hat2; have HG := Lib.hid hg; have HR2 := Lib.hid (And.intro hr2 hb2'); have HAT2 := Lib.hid hat2; clear hg hr2 hb2' hat2)
      | fail)
    obtain ⟨W3, hW3⟩ : ∃ W3, W3 = W2.setCell ⟨pb, p, none⟩ (.int .i64 ((rdN L).1 : Nat)) := ⟨_, rfl⟩
    rw [← hW3]
    have hg := HG.out
    have hkeep : ∀ k, k ≠ pb → W3.heap[k]? = W2.heap[k]? := fun k h => by rw [hW3]; exact heap_setCell_other _ _ _ _ h
    have hs3 : W3.heap.size = W2.heap.size := by rw [hW3]; simp [World.setCell]
    have hall : ∀ k, k < W.heap.size → k ≠ rb → k ≠ pb → W3.heap[k]? = W.heap[k]? := fun k hk h1 h2 => (hkeep k h2).trans (hg.block k hk (by simp; exact h1))
    have hlbW : lb < W.heap.size := by have := HSZ1.out; omega
    have hgr : Grow W W3 := ⟨by rw [hW3]; exact hg.os, by rw [hW3]; exact hg.tape, by rw [hW3]; exact hg.output, by rw [hs3]; exact hg.size⟩
    have hF := HF.out
    have hat3 : W3.heap[pb]? = some (.cells (CC.setIfInBounds p (.int .i64 ((rdN L).1 : Nat))) t (0, 0)) := by rw [hW3]; exact heap_setCell_same _ _ _ _ _ _ HAT2.out
    refine ⟨Φ, fun k hk => absurd hk (HNN.out k), ⟨hgr, fun k hk h1 h2 => hall k hk (fun e => h1 (Or.inl e)) (fun e => h1 (Or.inr e))⟩, HNN.out, v2, ?_⟩
    rw [List.length_append, List.length_singleton, ← HJ.out]
    refine ⟨(hall lb hlbW HN.out.1 HN.out.2).trans HBX.out, (hkeep rb hrp).trans HR2.out.1, by rw [hF]; exact HR2.out.2, by rw [hF]; exact hat3, ⟨hgr.os.trans HOLD.out.os, hgr.tape.trans HOLD.out.tape, hgr.output.trans HOLD.out.output, Nat.le_trans HOLD.out.size hgr.size, fun k hk => ?_⟩, Nat.le_trans HSZ1.out hgr.size⟩
    exact (hall k (Nat.lt_of_lt_of_le hk HOLD.out.size) (by omega) (by omega)).trans (HOLD.out.block k hk)
  case done =>
    rintro D Φ W3 ⟨hn, v3, hC⟩ hon hD hnD hK
    have hvl : (ptrs pb pos).length = pos.length := by simp [ptrs]
    rw [hvl] at hC
    obtain ⟨hbx, hrd, hby, hat, hold, hsz1⟩ := hC
    rw [List.take_length] at hby hat
    have HRD := Lib.hid hrd
    have HBY2 := Lib.hid hby
    have HAT := Lib.hid hat
    have HON := Lib.hid hon
    have HKK := Lib.hid hK
    clear hbx hrd hby hat hold hsz1 hon hK hn
    gi_wp2
    refine ⟨by simp, .inl ⟨_, _, rfl, run_takeDeferred HKK.out, ?_⟩⟩
    have hO2 := HON.out
    have hw2 := HB1.out
    have hLB := HLB.out
    have hDl : w.heap.size ≤ D := by have := hw2.size; omega
    refine ⟨.tuple #[], by simp [results, Try.results61, go_sem], ⟨_, rfl⟩, ⟨⟨hO2.grow.os.trans hw2.os, hO2.grow.tape.trans hw2.tape, hO2.grow.output.trans hw2.output, by have h1 := hO2.grow.size; have h2 := hw2.size; simp [World.putObj]; omega⟩, fun k hk h1 h2 => ?_⟩, v3, (put_other (by omega)).trans HRD.out, HBY2.out, (put_other (by omega)).trans HAT.out⟩
    rw [put_other (by omega), hO2.block k (by omega) (by omega) (fun h => h)]
    exact hw2.block k hk
  case stop =>
    rintro D Φ c pre W3 hpre h
    exact h.elim
end Go.Proofs.Ytbndegkgpoemnaa
end

section
namespace Go.Proofs.Ytbndegkgpoemnaa
open Go.RowKit
set_option linter.unusedVariables false
set_option linter.unusedSimpArgs false
set_option linter.constructorNameAsVariable false

/-- A call, none of whose calls lies in a block of Z. -/
def RdZ (Z : Nat → Prop) (w : World) : Nat → Value → Cl → Prop
  | 0, _, _ => False
  | d + 1, v, c => ∃ ao cap, v = .agg #[.int .i64 c.k, .int .i64 c.t, .int .i64 c.n, .slice ao c.kids.length cap] ∧
      ∀ i (hi : i < c.kids.length), ∃ b off vs, ao = some ⟨b, off, none⟩ ∧ (b < w.heap.size ∧ ¬ Z b) ∧ w.rangeAt b (off + i * 4) vs ∧ RdZ Z w d (.agg vs.toArray) c.kids[i]
theorem RdZ.toC {Z : Nat → Prop} {w : World} : ∀ {d : Nat} {v : Value} {c : Cl}, RdZ Z w d v c → RdC w d v c
  | 0, _, _, h => h.elim
  | d + 1, v, c, ⟨ao, cap, e, h⟩ => ⟨ao, cap, e, fun i hi => by
    obtain ⟨b, off, vs, e1, e2, e3, e4⟩ := h i hi
    exact ⟨b, off, vs, e1, e2.1, e3, RdZ.toC e4⟩⟩
theorem RdZ.keep {Z Z' : Nat → Prop} {w w' : World} (hs : w.heap.size ≤ w'.heap.size) (hz : ∀ k, k < w.heap.size → Z' k → Z k) (hk : ∀ k, k < w.heap.size → ¬ Z k → w'.heap[k]? = w.heap[k]?) : ∀ {d : Nat} {v : Value} {c : Cl}, RdZ Z w d v c → RdZ Z' w' d v c
  | 0, _, _, h => h.elim
  | d + 1, v, c, ⟨ao, cap, e, h⟩ => ⟨ao, cap, e, fun i hi => by
    obtain ⟨b, off, vs, e1, e2, e3, e4⟩ := h i hi
    exact ⟨b, off, vs, e1, ⟨Nat.lt_of_lt_of_le e2.1 hs, fun hz' => e2.2 (hz b e2.1 hz')⟩, rangeAt_keep e3 (hk b e2.1 e2.2), RdZ.keep hs hz hk e4⟩⟩
theorem RdZ.cells {Z : Nat → Prop} {w : World} : ∀ {d : Nat} {v : Value} {c : Cl}, RdZ Z w d v c → ∃ ao cap, v = .agg #[.int .i64 c.k, .int .i64 c.t, .int .i64 c.n, .slice ao c.kids.length cap]
  | 0, _, _, h => h.elim
  | d + 1, v, c, ⟨ao, cap, e, _⟩ => ⟨ao, cap, e⟩
theorem callInfo3 : (Try.prog.info? 28).map (fun i => (i.zero, i.size, i.bytes)) = some (some (.agg #[.int .i64 0, .int .i64 0, .int .i64 0, .slice none 0 0]), 4, 48) := by kernel_rfl
/-- A call's four cells. -/
abbrev C4 := Int × Int × Int × Option Addr × Nat × Nat
def c4 (x : C4) : List Value := [.int .i64 x.1, .int .i64 x.2.1, .int .i64 x.2.2.1, .slice x.2.2.2.1 x.2.2.2.2.1 x.2.2.2.2.2]
def rowC : RowTy Try.prog C4 where
  T := 28
  S := 26
  k := 4
  f := c4
  len := fun _ => rfl
  one := fun x u hu => by
    simp only [c4, List.mem_cons, List.not_mem_nil, or_false] at hu
    rcases hu with rfl | rfl | rfl | rfl <;> rfl
  pos := by decide
  small := by decide
  slice := Try.underlying26
  info := by
    obtain ⟨i0, hi, hz⟩ := Option.map_eq_some_iff.1 callInfo3
    simp only [Prod.mk.injEq] at hz
    obtain ⟨h1, h2, h3⟩ := hz
    exact ⟨i0, _, _, hi, h1, h2, rfl, h3, by decide⟩
  row := ⟨_, Try.underlying28, rfl⟩
def z4 : C4 := (0, 0, 0, none, 0, 0)
/-- What readCall keeps while it reads the calls of a call. -/
structure KSt (w : World) (cb rb N1 : Nat) (k t n : Int) (d : Nat) (ks : List Cl) (R : List Nat) (s : Value) (ys : List C4) (W : World) : Prop where
  old : Below w.heap.size w W
  cat : W.heap[cb]? = some (.cells #[.int .i64 k, .int .i64 t, .int .i64 n, s] 28 (0, 0))
  own : OwnR rowC N1 s ys W
  len : ys.length = ks.length
  kids : ∀ i (hi : i < ys.length) (hk : i < ks.length), RdZ (fun b => b < N1 ∨ s.ownBlock = some b) W d (.agg (c4 ys[i]).toArray) ks[i]
  sz : N1 ≤ W.heap.size
  rdr : ∃ v', RBx W rb v' ∧ RdB w v' R
  rs : W.heap[w.heap.size]? = some (.cells #[.int .i64 0, .int .i64 0, .int .i64 0, .slice none 0 0] 28 (0, 0))
theorem KSt.keep {w : World} {cb rb N1 : Nat} {k t n : Int} {d : Nat} {ks : List Cl} {R : List Nat} {s : Value} {ys : List C4} {W W' : World} (h : KSt w cb rb N1 k t n d ks R s ys W) (hb : Below W.heap.size W W') : KSt w cb rb N1 k t n d ks R s ys W' := by
  obtain ⟨v', h1, h2⟩ := h.rdr
  exact ⟨h.old.trans (hb.mono h.old.size), (hb.block cb (Array.getElem?_eq_some_iff.1 h.cat).1).trans h.cat, h.own.of (Nat.le_refl _) (fun x hx => hb.block x (h.own.block hx).2), h.len,
    fun i hi hk => RdZ.keep hb.size (fun _ _ z => z) (fun x hx _ => hb.block x hx) (h.kids i hi hk), Nat.le_trans h.sz hb.size, ⟨v', (hb.block rb h1.lt).trans h1, h2⟩, (hb.block _ (Array.getElem?_eq_some_iff.1 h.rs).1).trans h.rs⟩
theorem KSt.row {w : World} {cb rb N1 : Nat} {k t n : Int} {d : Nat} {ks : List Cl} {R R' : List Nat} {s : Value} {ys : List C4} {W W' : World} (h : KSt w cb rb N1 k t n d ks R s ys W) (hw : w.heap.size < rb) (hcr : cb ≠ rb) (hrN : rb < N1) (hg : W.grownBy W' (some rb)) {v' : Value} (hr : RBx W' rb v') (hb : RdB w v' R') : KSt w cb rb N1 k t n d ks R' s ys W' := by
  have hall : ∀ x, x < W.heap.size → x ≠ rb → W'.heap[x]? = W.heap[x]? := fun x hx hne => hg.block x hx (by simpa using hne)
  exact ⟨⟨hg.os.trans h.old.os, hg.tape.trans h.old.tape, hg.output.trans h.old.output, Nat.le_trans h.old.size hg.size, fun x hx => (hall x (Nat.lt_of_lt_of_le hx h.old.size) (by omega)).trans (h.old.block x hx)⟩,
    (hall cb (Array.getElem?_eq_some_iff.1 h.cat).1 hcr).trans h.cat, h.own.of (Nat.le_refl _) (fun x hx => hall x (h.own.block hx).2 (by have := (h.own.block hx).1; omega)), h.len,
    fun i hi hk => RdZ.keep hg.size (fun _ _ z => z) (fun x hx hz => hall x hx (fun e => hz (Or.inl (by omega)))) (h.kids i hi hk), Nat.le_trans h.sz hg.size, ⟨v', hr, hb⟩, (hall _ (Array.getElem?_eq_some_iff.1 h.rs).1 (by omega)).trans h.rs⟩
/-- What it hands back. -/
theorem KSt.out {w : World} {cb rb N1 : Nat} {k t n : Int} {d : Nat} {ks : List Cl} {R : List Nat} {s : Value} {ys : List C4} {W : World} (h : KSt w cb rb N1 k t n d ks R s ys W) : RdZ (fun b => b < N1) W (d + 1) (.agg #[.int .i64 k, .int .i64 t, .int .i64 n, s]) (.mk k t n ks) := by
  obtain ⟨ao, cap, rfl⟩ := h.own.lenOf
  refine ⟨ao, cap, by rw [h.len]; rfl, fun i hi => ?_⟩
  have hi' : i < ks.length := hi
  have hiy : i < ys.length := by rw [h.len]; exact hi'
  obtain ⟨b, off, rfl, h2, h3⟩ := h.own.reads.at hiy
  have hbN := (h.own.block (k := b) rfl).1
  refine ⟨b, off, _, rfl, ⟨h3, by omega⟩, h2, RdZ.keep (Nat.le_refl _) (fun x _ hx => Or.inl hx) (fun _ _ _ => rfl) (h.kids i hiy hi')⟩
end Go.Proofs.Ytbndegkgpoemnaa
end

section
namespace Go.Proofs.Ytbndegkgpoemnaa
open Go.RowKit
set_option linter.unusedVariables false
set_option linter.unusedSimpArgs false

/-- The last of a row of one's own, laid anew. -/
theorem OwnR.last {B : Nat} {v : Value} {xs : List C4} {z : C4} {W : World} (h : OwnR rowC B v (xs ++ [z]) W) : ∃ g cap, v = .slice (some ⟨g, 0, none⟩) (xs.length + 1) cap ∧ B ≤ g ∧ g < W.heap.size ∧ W.there g (xs.length * 4) 4 ∧ ∀ y, OwnR rowC B v (xs ++ [y]) (W.setCells g (xs.length * 4) (c4 y)) := by
  have h0 := h
  obtain ⟨h1, h2⟩ := h
  have hk : rowC.k = 4 := rfl
  have hT : ∀ xs : List C4, (rowC.all xs).length = xs.length * 4 := fun xs => rowC.all_len xs
  rcases h2 with ⟨-, hn⟩ | ⟨g, cap, cur, rfl, hb, hg, hn, hm, hs, ht⟩
  · simp at hn
  · have e : cur.toList = rowC.all xs ++ (c4 z ++ cur.toList.drop ((xs ++ [z]).length * 4)) := by
      have e1 := (List.take_append_drop ((xs ++ [z]).length * 4) cur.toList).symm
      rw [rowC.all_append, rowC.all_one] at ht
      have ht' : cur.toList.take ((xs ++ [z]).length * 4) = rowC.all xs ++ c4 z := ht
      rw [ht', List.append_assoc] at e1
      exact e1
    have hcur : cur = (rowC.all xs ++ (c4 z ++ cur.toList.drop ((xs ++ [z]).length * 4))).toArray := by rw [← e]
    have hlen : xs.length * 4 + 4 ≤ cur.size := by
      have := congrArg List.length e
      rw [List.length_append, List.length_append, hT] at this
      have h4 : (c4 z).length = 4 := rfl
      rw [h4] at this
      simp only [Array.length_toList] at this
      omega
    refine ⟨g, cap, by simp, hb, (h0.block rfl).2, fun j hj => ⟨?_, frozen_of_row _ _ _ _ _ hg⟩, fun y => ⟨?_, Or.inr ⟨g, cap, (rowC.all xs ++ (c4 y ++ cur.toList.drop ((xs ++ [z]).length * 4))).toArray, ?_, hb, ?_, ?_, hm, ?_, ?_⟩⟩⟩
    · rw [World.cell?, hg]
      have : xs.length * 4 + j < cur.size := by omega
      simp [this]
    · simp only [List.length_append, List.length_singleton] at h1 ⊢
      rw [hT]
      simp [hk]
    · simp
    · rw [hcur] at hg
      have h5 := setCells_mid (c4 y) (rowC.all xs) (c4 z) (cur.toList.drop ((xs ++ [z]).length * 4)) W hg rfl
      rw [hT] at h5
      exact h5
    · simpa using hn
    · rw [← hs]
      have h6 := congrArg List.length e
      simp only [Array.length_toList] at h6
      rw [h6]
      simp [c4]
    · rw [rowC.all_append, rowC.all_one]
      have h7 : (rowC.all xs ++ rowC.f y).length = (xs ++ [y]).length * rowC.k := by rw [List.length_append, hT]; simp [rowC, c4]; omega
      rw [← h7, ← List.append_assoc]
      exact List.take_left
theorem fields_apart {w0 W : World} {rb cb bx b m pb po : Nat} {x : Int} {v : Value} {l : List Nat} (hm : 0 < m) (hcx : W.cell? ⟨bx, 0, none⟩ = some (.slice (some ⟨b, 0, none⟩) m m)) (hrv : W.cell? ⟨b, 0, none⟩ = some (.pointer (some ⟨pb, po, none⟩)))
    (hrb : RBx W rb v) (hr : RdB w0 v l) (h0 : Below w0.heap.size w0 W) (hcb : W.cell? ⟨cb, 0, none⟩ = some (.int .i64 x)) : (bx ≠ rb ∧ bx ≠ cb) ∧ (b ≠ rb ∧ b ≠ cb) := by
  have hv := hrb.cell
  refine ⟨⟨?_, ?_⟩, ?_, ?_⟩
  · rintro rfl
    rw [hv] at hcx
    injection hcx with e
    rcases hr.below h0 with ⟨e2, -⟩ | ⟨a, cap, e2, -, hcell⟩
    · rw [e2] at e; cases e
    · rw [e2] at e
      injection e with e3 e4 e5
      injection e3 with e3
      subst e3
      have := hcell 0 (by omega)
      rw [show (⟨b, 0, none⟩ : Addr).add 0 = ⟨b, 0, none⟩ from by simp [Addr.add], hrv] at this
      cases this
  · rintro rfl; rw [hcb] at hcx; cases hcx
  · rintro rfl
    rw [hv] at hrv
    injection hrv with e
    rcases hr with ⟨e2, -⟩ | ⟨a, cap, e2, -⟩ <;> · rw [e2] at e; cases e
  · rintro rfl; rw [hcb] at hrv; cases hrv
theorem wpl_storeD {w : World} {ops : Array Oper} {rest : List Oper} {o : Oper} {a : Act} {Q : Exit → Act → World → Prop} {b : Nat} {old vs : Array Value} (x y : Operand) (hgd : o.guard = none) (ho : o.op = .store 28 x y) (hx : a.eval x = .pointer (some ⟨b, 0, none⟩)) (hy : a.eval y = .agg vs)
    (hh : w.heap[b]? = some (.cells old 28 (0, 0))) (hl : vs.size = 4) (hl0 : old.size = 4) (h1 : vs.all (fun u => u.oneCell') = true)
    (h : wpList Try.prog ops Q rest (a.put o.dst undef) (w.setRow b vs)) : wpList Try.prog ops Q (o :: rest) a w := by
  refine wpList_plain hgd fun K hK => ?_
  unfold Oper.wp execOp
  have hr : (Instr.storeAt 28 (.pointer (some ⟨b, 0, none⟩)) (.agg vs)).run Try.prog w = .ok () (w.setRow b vs) := by
    simp only [Instr.storeAt, Instr.sureAddr, Sem.run_bind, Sem.run_pure, Result.andThen_ok, run_storeVar_row w b 28 28 old vs hh (by rw [hl]; exact sizeC) (by rw [hl, hl0]) h1]
  simp only [ho, hx, hy, Sem.run_bind, Sem.run_pure, hr, Result.andThen_ok]
  exact hK _ _ h
theorem ones4D (a b c : Int) (ao : Option Addr) (m n : Nat) : (#[Value.int .i64 a, .int .i64 b, .int .i64 c, .slice ao m n].all (fun u => u.oneCell')) = true := by simp [Value.oneCell']
abbrev zero4 : Array Value := #[.int .i64 0, .int .i64 0, .int .i64 0, .slice none 0 0]
abbrev HXs (W1 : World) (cb rb rs : Nat) (v : Value) : Prop := RBx W1 rb v ∧ W1.heap[cb]? = some (.cells zero4 28 (0, 0)) ∧ W1.heap[rs]? = some (.cells zero4 28 (0, 0))
abbrev HNs (w W1 : World) (cb rb rs : Nat) : Prop := cb ≠ rb ∧ rs ≠ cb ∧ rs ≠ rb ∧ w.heap.size ≤ rs ∧ w.heap.size < cb ∧ w.heap.size < rb ∧ rs < W1.heap.size ∧ cb < W1.heap.size ∧ rb < W1.heap.size
abbrev HFs (W1 w2 : World) (cb bx bb : Nat) : Prop := Below W1.heap.size W1 w2 ∧ w2.cell? ⟨bx, 0, none⟩ = some (.slice (some ⟨bb, 0, none⟩) 3 3) ∧ RowV w2 bb [.pointer (some ⟨cb, 0, none⟩), .pointer (some ⟨cb, 0 + 1, none⟩), .pointer (some ⟨cb, 0 + 2, none⟩)] ∧ bx < w2.heap.size ∧ bb < w2.heap.size
abbrev H3s (w w2 w3 : World) (cb rb : Nat) (l : List Nat) : Prop := (Grow w2 w3 ∧ ∀ k, k < w2.heap.size → k ≠ rb → k ≠ cb → w3.heap[k]? = w2.heap[k]?) ∧ ∃ v', RBx w3 rb v' ∧ RdB w v' (rdN (rdN (rdN l).2).2).2 ∧ w3.heap[cb]? = some (.cells #[.int .i64 ((rdN l).1 : Nat), .int .i64 ((rdN (rdN l).2).1 : Nat), .int .i64 ((rdN (rdN (rdN l).2).2).1 : Nat), .slice none 0 0] 28 (0, 0))
theorem rd_fill {w W1 w2 : World} {cb rb rs bx bb : Nat} {v : Value} {l : List Nat} (hr : RdB w v l) (hby : ByL l) (hB1 : Below w.heap.size w W1) (hX : HXs W1 cb rb rs v) (hN : HNs w W1 cb rb rs) (hF : HFs W1 w2 cb bx bb) :
    Calls Try.prog 61 #[.pointer (some ⟨rb, 0, none⟩), .func (.func 76) #[] #[.pointer (some ⟨bx, 0, none⟩)]] w2 fun e w' => (∃ u, e = .returned u) ∧ H3s w w2 w' cb rb l := by
  obtain ⟨n1, n2, n3, n4, n5, n6, n7, n8, n9⟩ := hN
  obtain ⟨x1, x2, x3⟩ := hX
  obtain ⟨f1, f2, f3, f4, f5⟩ := hF
  have hrb2 : RBx w2 rb v := (f1.block rb n9).trans x1
  have hca2 := (f1.block cb n8).trans x2
  have hB2 : Below w.heap.size w w2 := hB1.trans (f1.mono hB1.size)
  have hc0 : w2.cell? ⟨cb, 0, none⟩ = some (.int .i64 0) := by rw [World.cell?, hca2]; rfl
  obtain ⟨⟨a1, a2⟩, a3, a4⟩ := fields_apart (by omega) f2 (f3 0 _ rfl) hrb2 hr hB2 hc0
  refine (code_fill rb cb bx bb 3 28 [0, 1, 2] l zero4 v w w2 hB2 hr hrb2 hby hca2 (Ne.symm n1) ⟨by omega, by omega⟩ (by intro p hp; simp at hp; rcases hp with rfl | rfl | rfl <;> decide) f2 ⟨f4, a1, a2⟩ ⟨f5, a3, a4⟩ f3 (by simp [ptrs])).mono ?_
  rintro e w' ⟨h1, h2, v', h3, h4, h5⟩
  exact ⟨h1, h2, v', h3, h4, h5⟩
theorem rd_num {w W1 w2 w3 : World} {cb rb rs bx bb : Nat} {v : Value} {l : List Nat} {d : Nat} (hr : RdB w v l) (hby : ByL l) (hB1 : Below w.heap.size w W1) (hX : HXs W1 cb rb rs v) (hN : HNs w W1 cb rb rs) (hF : HFs W1 w2 cb bx bb) (h3 : H3s w w2 w3 cb rb l) (hrs : rs = w.heap.size) :
    Calls Try.prog 62 #[.pointer (some ⟨rb, 0, none⟩)] w3 fun e w' => e = .returned (.int .i64 ((rdN (rdN (rdN (rdN l).2).2).2).1 : Nat)) ∧ ∃ N1, (rb < N1 ∧ cb < N1 ∧ rs < N1) ∧ KSt w cb rb N1 ((rdN l).1 : Nat) ((rdN (rdN l).2).1 : Nat) ((rdN (rdN (rdN l).2).2).1 : Nat) d [] (rd4 l) (.slice none 0 0) [] w' := by
  obtain ⟨n1, n2, n3, n4, n5, n6, n7, n8, n9⟩ := hN
  obtain ⟨x1, x2, x3⟩ := hX
  obtain ⟨f1, f2, f3, f4, f5⟩ := hF
  obtain ⟨⟨g1, g2⟩, v', r1, r2, r3⟩ := h3
  subst hrs
  have hs2 := f1.size
  have hrs3 : w3.heap[w.heap.size]? = some (.cells zero4 28 (0, 0)) := (g2 _ (by omega) n3 n2).trans ((f1.block _ n7).trans x3)
  have hB3 : Below w.heap.size w w3 := ⟨g1.os.trans (f1.os.trans hB1.os), g1.tape.trans (f1.tape.trans hB1.tape), g1.output.trans (f1.output.trans hB1.output), by have := hB1.size; have := g1.size; omega, fun k hk => (g2 k (by omega) (by omega) (by omega)).trans ((f1.block k (by omega)).trans (hB1.block k hk))⟩
  refine (code_number rb v' _ w w3 hB3 r2 r1 hby.rdN.rdN.rdN).mono ?_
  rintro e w' ⟨h1, hg, v2, q1, q2⟩
  have hgs := hg.size
  have hall : ∀ k, k < w3.heap.size → k ≠ rb → w'.heap[k]? = w3.heap[k]? := fun k hk hne => hg.block k hk (by simpa using hne)
  have hs3 := g1.size
  refine ⟨h1, w'.heap.size, ⟨by omega, by omega, by omega⟩, ⟨⟨hg.os.trans hB3.os, hg.tape.trans hB3.tape, hg.output.trans hB3.output, Nat.le_trans hB3.size hgs, fun k hk => (hall k (by omega) (by omega)).trans (hB3.block k hk)⟩, (hall cb (by omega) n1).trans r3, OwnR.nil _ _, rfl, fun i hi => by simp at hi, Nat.le_refl _, ⟨v2, q1, q2⟩, (hall _ (by omega) n3).trans hrs3⟩⟩
/-- What is the same behind an append, the store of the last, and the store of the row. -/
structure AppX (W X : World) (g cb : Nat) (so : Option Nat) : Prop where
  os : X.os = W.os
  tape : X.tape = W.tape
  output : X.output = W.output
  size : W.heap.size ≤ X.heap.size
  block : ∀ x, x < W.heap.size → x ≠ g → x ≠ cb → some x ≠ so → X.heap[x]? = W.heap[x]?
theorem kst_fin {w : World} {cb rb N1 : Nat} {k t n : Int} {d : Nat} {ks : List Cl} {R : List Nat} {s : Value} {ys : List C4} {W X : World} {g cap8 : Nat} {C : Cl} {y : C4} {N2 : Nat} (h : KSt w cb rb N1 k t n d ks R s ys W) (hcb : cb < N1) (hwcb : w.heap.size < cb) (hrb : rb < N1) (hwrb : w.heap.size < rb) (hcr : cb ≠ rb)
    (hkid : RdZ (fun b => b < N2) W d (.agg (c4 y).toArray) C) (hN2 : ∀ b, s.ownBlock = some b → b < N2) (hN12 : N1 ≤ N2) (hg : s.ownBlock = some g ∨ g = W.heap.size) (hX : AppX W X g cb s.ownBlock)
    (hcat : X.heap[cb]? = some (.cells #[.int .i64 k, .int .i64 t, .int .i64 n, .slice (some ⟨g, 0, none⟩) (ys.length + 1) cap8] 28 (0, 0)))
    (hown : OwnR rowC N1 (.slice (some ⟨g, 0, none⟩) (ys.length + 1) cap8) (ys ++ [y]) X) : KSt w cb rb N1 k t n d (ks ++ [C]) R (.slice (some ⟨g, 0, none⟩) (ys.length + 1) cap8) (ys ++ [y]) X := by
  obtain ⟨v', r1, r2⟩ := h.rdr
  have hgN : N1 ≤ g := (hown.block (k := g) rfl).1
  have hso : ∀ b, s.ownBlock = some b → N1 ≤ b := fun b hb => (h.own.block hb).1
  have lo : ∀ x, x < W.heap.size → x < N1 → x ≠ cb → X.heap[x]? = W.heap[x]? := fun x hx hxN hne => hX.block x hx (by omega) hne (fun e => by have := hso x e.symm; omega)
  have hws := h.old.size
  refine ⟨⟨hX.os.trans h.old.os, hX.tape.trans h.old.tape, hX.output.trans h.old.output, Nat.le_trans hws hX.size, fun x hx => (lo x (by omega) (by omega) (by omega)).trans (h.old.block x hx)⟩, hcat, hown, by rw [List.length_append, List.length_append, h.len]; rfl, fun i hi hk => ?_, Nat.le_trans h.sz hX.size, ⟨v', (lo rb r1.lt hrb (Ne.symm hcr)).trans r1, r2⟩, (lo _ (Array.getElem?_eq_some_iff.1 h.rs).1 (by omega) (by omega)).trans h.rs⟩
  have hlen := h.len
  by_cases hiy : i < ys.length
  · have e1 : (ys ++ [y])[i] = ys[i] := List.getElem_append_left hiy
    have e2 : (ks ++ [C])[i] = ks[i]'(by omega) := List.getElem_append_left (by omega)
    rw [e1, e2]
    refine RdZ.keep hX.size (fun x hx hz => ?_) (fun x hx hz => ?_) (h.kids i hiy (by omega))
    · rcases hz with hz | hz
      · exact Or.inl hz
      · have hz' : g = x := by simpa [Value.ownBlock] using hz
        subst hz'
        rcases hg with hg | hg
        · exact Or.inr hg
        · omega
    · refine hX.block x hx (fun e => hz ?_) (fun e => hz (Or.inl (by omega))) (fun e => hz (Or.inr e.symm))
      subst e
      rcases hg with hg | hg
      · exact Or.inr hg
      · omega
  · have hie : i = ys.length := by rw [List.length_append, List.length_singleton] at hi; omega
    subst hie
    have e1 : (ys ++ [y])[ys.length] = y := by simp
    have e2 : (ks ++ [C])[ys.length] = C := by simp [hlen]
    rw [e1, e2]
    refine RdZ.keep hX.size (fun x hx hz => ?_) (fun x hx hz => ?_) hkid
    · show x < N2
      rcases hz with hz | hz
      · omega
      · have hz' : g = x := by simpa [Value.ownBlock] using hz
        subst hz'
        rcases hg with hg | hg
        · exact hN2 _ hg
        · omega
    · have hz' : ¬ x < N2 := hz
      refine hX.block x hx (fun e => ?_) (by omega) (fun e => by have := hN2 x e.symm; omega)
      subst e
      rcases hg with hg | hg
      · have := hN2 _ hg; omega
      · omega
def appC (args : Array Value) : Sem Value := Builtin.append_ #[26, 26] 26 args
theorem appC_hide (args : Array Value) : Builtin.append_ #[26, 26] 26 args = appC args := rfl
def AppQ (w : World) (cb rb N1 : Nat) (k t n : Int) (d : Nat) (ks : List Cl) (R : List Nat) (s : Value) (ys : List C4) (W : World) (C : Cl) (y : C4) (ub : Nat) : Prop :=
    ∃ g cap8 w8, (appC #[s, .slice (some ⟨ub, 0, none⟩) 1 1]).run Try.prog W = .ok (.slice (some ⟨g, 0, none⟩) (ys.length + 1) cap8) w8 ∧
      (storeC (.pointer (some ⟨g, ys.length * 4, none⟩)) (.agg (c4 y).toArray)).run Try.prog w8 = .ok () (w8.setCells g (ys.length * 4) (c4 y)) ∧
      (storeC (.pointer (some ⟨g, ys.length * 4, none⟩)) (.agg (c4 y).toArray)).run Try.prog (w8.setCell ⟨cb, 3, none⟩ (.slice (some ⟨g, 0, none⟩) (ys.length + 1) cap8)) = .ok () ((w8.setCell ⟨cb, 3, none⟩ (.slice (some ⟨g, 0, none⟩) (ys.length + 1) cap8)).setCells g (ys.length * 4) (c4 y)) ∧
      (w8.cell? ⟨cb, 3, none⟩ = some s ∧ w8.frozen? ⟨cb, 3, none⟩ = false) ∧ ((w8.setCells g (ys.length * 4) (c4 y)).cell? ⟨cb, 3, none⟩ = some s ∧ (w8.setCells g (ys.length * 4) (c4 y)).frozen? ⟨cb, 3, none⟩ = false) ∧
      KSt w cb rb N1 k t n d (ks ++ [C]) R (.slice (some ⟨g, 0, none⟩) (ys.length + 1) cap8) (ys ++ [y]) ((w8.setCells g (ys.length * 4) (c4 y)).setCell ⟨cb, 3, none⟩ (.slice (some ⟨g, 0, none⟩) (ys.length + 1) cap8)) ∧
      KSt w cb rb N1 k t n d (ks ++ [C]) R (.slice (some ⟨g, 0, none⟩) (ys.length + 1) cap8) (ys ++ [y]) ((w8.setCell ⟨cb, 3, none⟩ (.slice (some ⟨g, 0, none⟩) (ys.length + 1) cap8)).setCells g (ys.length * 4) (c4 y))
theorem kst_app {w : World} {cb rb N1 : Nat} {k t n : Int} {d : Nat} {ks : List Cl} {R : List Nat} {s : Value} {ys : List C4} {W : World} {C : Cl} {y : C4} {N2 ub : Nat} (h : KSt w cb rb N1 k t n d ks R s ys W) (hcb : cb < N1) (hwcb : w.heap.size < cb) (hrb : rb < N1) (hwrb : w.heap.size < rb) (hcr : cb ≠ rb)
    (hU : W.heap[ub]? = some (.cells zero4 28 (0, 0))) (hkid : RdZ (fun b => b < N2) W d (.agg (c4 y).toArray) C) (hN2 : ∀ b, s.ownBlock = some b → b < N2) (hN12 : N1 ≤ N2) (hlen : ys.length ≤ 1000) :
    AppQ w cb rb N1 k t n d ks R s ys W C y ub := by
  have hlt : cb < W.heap.size := (Array.getElem?_eq_some_iff.1 h.cat).1
  obtain ⟨v8, w8, hrun, ho, hg, hat, -⟩ := run_appR (r := rowC) (y := z4) h.own (ub := ub) (fun j u hj => by rw [Nat.zero_add, World.cell?, hU]; simpa [rowC, c4, z4] using hj) (by omega) h.sz 26
  obtain ⟨g, cap8, rfl, hg1, hg2, hth, hlast⟩ := ho.last
  have hso : ∀ b, s.ownBlock = some b → N1 ≤ b := fun b hb => (h.own.block hb).1
  have hgo : s.ownBlock = some g ∨ g = W.heap.size := by
    rcases hat with e | e
    · exact Or.inl (by rw [← e]; rfl)
    · right
      have : (Value.slice (some ⟨g, 0, none⟩) (ys.length + 1) cap8).ownBlock = some g := rfl
      rw [this] at e
      injection e
  have hcat8 : w8.heap[cb]? = some (.cells #[.int .i64 k, .int .i64 t, .int .i64 n, s] 28 (0, 0)) := (hg.block cb hlt (fun e => by have := hso cb e.symm; omega)).trans h.cat
  have hcg : cb ≠ g := by omega
  have hS1 : ∀ (V : World), (V.setCells g (ys.length * 4) (c4 y)).heap.size = V.heap.size ∧ (V.setCells g (ys.length * 4) (c4 y)).os = V.os ∧ (V.setCells g (ys.length * 4) (c4 y)).tape = V.tape ∧ (V.setCells g (ys.length * 4) (c4 y)).output = V.output := fun V => by
    simp [c4, World.setCells, World.setCell]
  have hcat9 : (w8.setCells g (ys.length * 4) (c4 y)).heap[cb]? = some (.cells #[.int .i64 k, .int .i64 t, .int .i64 n, s] 28 (0, 0)) := (setCells_other hcg _ _ _).trans hcat8
  have hth2 : (w8.setCell ⟨cb, 3, none⟩ (.slice (some ⟨g, 0, none⟩) (ys.length + 1) cap8)).there g (ys.length * 4) 4 := fun j hj => by
    obtain ⟨q1, q2⟩ := hth j hj
    have e : (w8.setCell ⟨cb, 3, none⟩ (.slice (some ⟨g, 0, none⟩) (ys.length + 1) cap8)).heap[g]? = w8.heap[g]? := heap_setCell_other _ _ _ _ (by show g ≠ cb; omega)
    exact ⟨by rw [World.cell?_of_block (a := ⟨g, ys.length * 4 + j, none⟩) e]; exact q1, by rw [World.frozen?_of_block (a := ⟨g, ys.length * 4 + j, none⟩) e]; exact q2⟩
  have hc3 : w8.cell? ⟨cb, 3, none⟩ = some s := by rw [World.cell?, hcat8]; rfl
  have hc39 : (w8.setCells g (ys.length * 4) (c4 y)).cell? ⟨cb, 3, none⟩ = some s := by rw [World.cell?, hcat9]; rfl
  have hlo := hlast y
  refine ⟨g, cap8, w8, hrun, run_storeAt_mid w8 g (ys.length * 4) 28 (c4 y).toArray hth (by kernel_rfl) (by simp [c4, Value.oneCell']), run_storeAt_mid _ g (ys.length * 4) 28 (c4 y).toArray hth2 (by kernel_rfl) (by simp [c4, Value.oneCell']), ⟨hc3, frozen_of_row _ _ _ _ _ hcat8⟩, ⟨hc39, frozen_of_row _ _ _ _ _ hcat9⟩, ?_, ?_⟩
  · refine kst_fin h hcb hwcb hrb hwrb hcr hkid hN2 hN12 hgo ⟨?_, ?_, ?_, ?_, fun x hx h1 h2 h3 => ?_⟩ ?_ ?_
    · exact (hS1 w8).2.1.trans hg.os
    · exact (hS1 w8).2.2.1.trans hg.tape
    · exact (hS1 w8).2.2.2.trans hg.output
    · show W.heap.size ≤ ((w8.setCells g (ys.length * 4) (c4 y)).setCell _ _).heap.size
      rw [show ((w8.setCells g (ys.length * 4) (c4 y)).setCell ⟨cb, 3, none⟩ (.slice (some ⟨g, 0, none⟩) (ys.length + 1) cap8)).heap.size = (w8.setCells g (ys.length * 4) (c4 y)).heap.size from by simp [World.setCell], (hS1 w8).1]
      exact hg.size
    · exact (heap_setCell_other _ _ _ _ (by show x ≠ cb; exact h2)).trans ((setCells_other h1 _ _ _).trans (hg.block x hx h3))
    · exact heap_setCell_same _ _ _ _ _ _ hcat9
    · exact hlo.of (Nat.le_refl _) (fun x hx => heap_setCell_other _ _ _ _ (by have hgx : g = x := (by simpa [Value.ownBlock] using hx); show x ≠ cb; omega))
  · have hv6 := heap_setCell_same w8 cb 3 _ _ (.slice (some ⟨g, 0, none⟩) (ys.length + 1) cap8) hcat8
    have hv5 : ∀ x, x ≠ cb → (w8.setCell ⟨cb, 3, none⟩ (.slice (some ⟨g, 0, none⟩) (ys.length + 1) cap8)).heap[x]? = w8.heap[x]? := fun x hx => heap_setCell_other _ _ _ _ hx
    have hv4 : (w8.setCell ⟨cb, 3, none⟩ (.slice (some ⟨g, 0, none⟩) (ys.length + 1) cap8)).heap.size = w8.heap.size := by simp [World.setCell]
    have hv1 : (w8.setCell ⟨cb, 3, none⟩ (.slice (some ⟨g, 0, none⟩) (ys.length + 1) cap8)).os = w8.os := rfl
    have hv2 : (w8.setCell ⟨cb, 3, none⟩ (.slice (some ⟨g, 0, none⟩) (ys.length + 1) cap8)).tape = w8.tape := rfl
    have hv3 : (w8.setCell ⟨cb, 3, none⟩ (.slice (some ⟨g, 0, none⟩) (ys.length + 1) cap8)).output = w8.output := rfl
    have ho2 : OwnR rowC N1 (.slice (some ⟨g, 0, none⟩) (ys.length + 1) cap8) (ys ++ [z4]) (w8.setCell ⟨cb, 3, none⟩ (.slice (some ⟨g, 0, none⟩) (ys.length + 1) cap8)) := ho.of (Nat.le_refl _) (fun x hx => hv5 x (by have hgx : g = x := (by simpa [Value.ownBlock] using hx); omega))
    generalize w8.setCell ⟨cb, 3, none⟩ (.slice (some ⟨g, 0, none⟩) (ys.length + 1) cap8) = V9 at *
    refine kst_fin h hcb hwcb hrb hwrb hcr hkid hN2 hN12 hgo ⟨?_, ?_, ?_, ?_, fun x hx h1 h2 h3 => ?_⟩ ?_ ?_
    · exact (hS1 V9).2.1.trans (hv1.trans hg.os)
    · exact (hS1 V9).2.2.1.trans (hv2.trans hg.tape)
    · exact (hS1 V9).2.2.2.trans (hv3.trans hg.output)
    · rw [(hS1 V9).1, hv4]; exact hg.size
    · exact (setCells_other h1 _ _ _).trans ((hv5 x h2).trans (hg.block x hx h3))
    · exact (setCells_other hcg _ _ _).trans hv6
    · obtain ⟨g', cap', e, -, -, -, hl2⟩ := ho2.last
      have hgg : g = g' := by
        have e1 := congrArg Value.ownBlock e
        simpa [Value.ownBlock] using e1
      subst hgg
      exact hl2 y
theorem rd_end {w W : World} {cb rb N1 rs : Nat} {k t n : Int} {d : Nat} {ks : List Cl} {R : List Nat} {s : Value} {ys : List C4} (h : KSt w cb rb N1 k t n d ks R s ys W) (hrs : rs = w.heap.size) (hN : rs < N1) {C : Cl} (hC : C = .mk k t n ks) :
    RdZ (fun b => b < w.heap.size) (W.setRow rs #[.int .i64 k, .int .i64 t, .int .i64 n, s]) (d + 1) (.agg #[.int .i64 k, .int .i64 t, .int .i64 n, s]) C ∧ Below w.heap.size w (W.setRow rs #[.int .i64 k, .int .i64 t, .int .i64 n, s]) ∧ (W.setRow rs #[.int .i64 k, .int .i64 t, .int .i64 n, s]).heap[rs]? = some (.cells #[.int .i64 k, .int .i64 t, .int .i64 n, s] 28 (0, 0)) := by
  subst hrs
  subst hC
  have hh := setRow_heap W _ _ #[.int .i64 k, .int .i64 t, .int .i64 n, s] _ _ h.rs
  have ho : ∀ x, x ≠ w.heap.size → (W.setRow w.heap.size #[.int .i64 k, .int .i64 t, .int .i64 n, s]).heap[x]? = W.heap[x]? := fun x hx => setRow_other _ _ _ _ hx
  have hsz : (W.setRow w.heap.size #[.int .i64 k, .int .i64 t, .int .i64 n, s]).heap.size = W.heap.size := by simp
  have := h.old.size
  exact ⟨RdZ.keep (by omega) (fun x _ hx => by show x < N1; have hx' : x < w.heap.size := hx; omega) (fun x _ hx => ho x (fun e => hx (by show x < N1; omega))) h.out, h.old.trans ⟨rfl, rfl, rfl, by omega, fun x hx => ho x (by omega)⟩, hh⟩
end Go.Proofs.Ytbndegkgpoemnaa
end

section
namespace Go.Proofs.Ytbndegkgpoemnaa
open Go.RowKit
set_option linter.unusedVariables false
set_option linter.unusedSimpArgs false

def RdCall (q : Nat) : Prop := ∀ (v : Value) (l : List Nat) (w : World), RdB w v l → ByL l → Calls Try.prog 53 #[v, .int .i64 (q : Int)] w fun e w' => ∃ u, e = .returned u ∧ RdZ (fun b => b < w.heap.size) w' (q + 1) u (readC q l) ∧ Below w.heap.size w w'
theorem row_K {w : World} {cb rb N1 : Nat} {k t n : Int} {d : Nat} {ks : List Cl} {R : List Nat} {s : Value} {ys : List C4} {W : World} (h : KSt w cb rb N1 k t n d ks R s ys W) (hby : ByL R) (hw : w.heap.size < rb) (hcr : cb ≠ rb) (hrN : rb < N1) :
    Calls Try.prog 63 #[.pointer (some ⟨rb, 0, none⟩)] W fun e w' => ∃ u, e = .returned u ∧ RdB w' u (rdR R).1 ∧ KSt w cb rb N1 k t n d ks (rdR R).2 s ys w' ∧ W.grownBy w' (some rb) := by
  obtain ⟨v', r1, r2⟩ := h.rdr
  refine (code_row rb v' R w W h.old r2 r1 hby).mono ?_
  rintro e w' ⟨u, rfl, h1, h2, v2, h3, h4⟩
  exact ⟨u, rfl, h1.reads, h.row hw hcr hrN h2 h3 h4, h2⟩
theorem read_K {q' : Nat} (ih : RdCall q') {w : World} {cb rb N1 : Nat} {k t n : Int} {d : Nat} {ks : List Cl} {R p : List Nat} {s u : Value} {ys : List C4} {W : World} (h : KSt w cb rb N1 k t n d ks R s ys W) (hu : RdB W u p) (hp : ByL p) :
    Calls Try.prog 53 #[u, .int .i64 (q' : Int)] W fun e w' => ∃ y : C4, e = .returned (.agg (c4 y).toArray) ∧ RdZ (fun b => b < W.heap.size) w' (q' + 1) (.agg (c4 y).toArray) (readC q' p) ∧ KSt w cb rb N1 k t n d ks R s ys w' ∧ Below W.heap.size W w' := by
  refine (ih u p W hu hp).mono ?_
  rintro e w' ⟨v, rfl, h1, h2⟩
  obtain ⟨ao, cap, e⟩ := h1.cells
  refine ⟨((readC q' p).k, (readC q' p).t, (readC q' p).n, ao, (readC q' p).kids.length, cap), by rw [e]; rfl, by rw [e] at h1; exact h1, h.keep h2, h2⟩
theorem KSt.c3 {w : World} {cb rb N1 : Nat} {k t n : Int} {d : Nat} {ks : List Cl} {R : List Nat} {s : Value} {ys : List C4} {W : World} (h : KSt w cb rb N1 k t n d ks R s ys W) : W.cell? ⟨cb, 3, none⟩ = some s := by rw [World.cell?, h.cat]; rfl
theorem bel_alloc (W : World) (o : Obj) : Below W.heap.size W (W.alloc o) := (Below.refl _ W).alloc (Nat.le_refl _) _
theorem bel_drew (W : World) : Below W.heap.size W W.drew := (Below.refl _ W).drew
theorem KSt.app {w : World} {cb rb N1 : Nat} {k t n : Int} {d : Nat} {ks : List Cl} {R : List Nat} {s : Value} {ys : List C4} {W : World} {C : Cl} {y : C4} {N2 ub : Nat} (h : KSt w cb rb N1 k t n d ks R s ys W) (hN : cb < N1 ∧ w.heap.size < cb ∧ rb < N1 ∧ w.heap.size < rb ∧ cb ≠ rb)
    (hU : W.heap[ub]? = some (.cells zero4 28 (0, 0))) (hkid : RdZ (fun b => b < N2) W d (.agg (c4 y).toArray) C) {V : World} {R' : List Nat} (hV : KSt w cb rb N1 k t n d ks R' s ys V) (hV2 : V.heap.size = N2) (hlen : ys.length ≤ 1000) : AppQ w cb rb N1 k t n d ks R s ys W C y ub :=
  kst_app h hN.1 hN.2.1 hN.2.2.1 hN.2.2.2.1 hN.2.2.2.2 hU hkid (fun b hb => by rw [← hV2]; exact (hV.own.block hb).2) (by rw [← hV2]; exact hV.sz) hlen
theorem step_appC {ops : Array Oper} {o : Oper} {a : Act} {w w' : World} {K : Act → World → Prop} {Q : Exit → Act → World → Prop} {E : Prop} {u v v' : Value} (hg : o.guard = none) (d x : Operand)
    (hop : o.op = Op.call { callee := Callee.builtin Builtin.append, args := #[d, x], argTypes := #[26, 26] }) (hty : o.type = 26) (hd : a.eval d = v) (hx : a.eval x = u) (hrun : (appC #[v, u]).run Try.prog w = .ok v' w') (hK : K (a.put o.dst v') w') :
    if Region.wanted o (yielded ops a.tmps) = true then Oper.wp Try.prog o a w K Q else E := by
  rw [if_pos (by simp [Region.wanted, hg])]
  unfold Oper.wp
  unfold appC at hrun
  simp [execOp, hop, hty, resolve, invoke, builtin, hd, hx, hrun, Result.andThen]
  exact hK
attribute [local go_sem ↓] store_c
set_option maxHeartbeats 8000000 in
set_option maxRecDepth 100000 in
theorem code_readCallH (q : Nat) (hq : q ≤ 3) (ih : ∀ q', q = q' + 1 → RdCall q') : RdCall q := by
  intro v l w hr hby
  obtain ⟨ao, cap, hv⟩ := hr.lenOf
  obtain ⟨m, hm⟩ : ∃ m, m = l.length := ⟨_, rfl⟩
  rw [← hm] at hv
  subst hv
  obtain ⟨W1, hW1⟩ : ∃ W1, W1 = ((w.alloc (.cells #[.int .i64 0, .int .i64 0, .int .i64 0, .slice none 0 0] 28)).alloc (.cells #[.int .i64 0, .int .i64 0, .int .i64 0, .slice none 0 0] 28)).alloc (.cells #[.slice ao m cap] 94) := ⟨_, rfl⟩
  obtain ⟨rs, hrs⟩ : ∃ b, b = w.heap.size := ⟨_, rfl⟩
  obtain ⟨cb, hcb⟩ : ∃ b, b = w.heap.size + 1 := ⟨_, rfl⟩
  obtain ⟨rb, hrb⟩ : ∃ b, b = w.heap.size + 1 + 1 := ⟨_, rfl⟩
  have hs1 : W1.heap.size = w.heap.size + 3 := by rw [hW1]; simp
  have hB1 : Below w.heap.size w W1 := by rw [hW1]; exact (((Below.refl _ w).alloc (Nat.le_refl _) _).alloc (by simp) _).alloc (by simp; omega) _
  have hrx1 : RBx W1 rb (.slice ao m cap) := by
    have h := World.alloc_heap_new ((w.alloc (.cells #[.int .i64 0, .int .i64 0, .int .i64 0, .slice none 0 0] 28)).alloc (.cells #[.int .i64 0, .int .i64 0, .int .i64 0, .slice none 0 0] 28)) (.cells #[.slice ao m cap] 94)
    rw [World.size_alloc, World.size_alloc, ← hW1, ← hrb] at h
    exact h
  have hca1 : W1.heap[cb]? = some (.cells #[.int .i64 0, .int .i64 0, .int .i64 0, .slice none 0 0] 28 (0, 0)) := by
    have h := World.alloc_heap_new (w.alloc (.cells #[.int .i64 0, .int .i64 0, .int .i64 0, .slice none 0 0] 28)) (.cells #[.int .i64 0, .int .i64 0, .int .i64 0, .slice none 0 0] 28)
    rw [World.size_alloc, ← hcb] at h
    rw [hW1]
    exact (Below.heap_alloc _ _ _ (by simp; omega)).trans h
  have hrs1 : W1.heap[rs]? = some (.cells #[.int .i64 0, .int .i64 0, .int .i64 0, .slice none 0 0] 28 (0, 0)) := by
    have h := World.alloc_heap_new w (.cells #[.int .i64 0, .int .i64 0, .int .i64 0, .slice none 0 0] 28)
    rw [← hrs] at h
    rw [hW1]
    exact (Below.heap_alloc _ _ _ (by simp; omega)).trans ((Below.heap_alloc _ _ _ (by simp; omega)).trans h)
  have HR := Lib.hid hr
  have HBY := Lib.hid hby
  have HW := Lib.hid (And.intro hW1 (And.intro hrs (And.intro hcb hrb)))
  have HB1 := Lib.hid hB1
  have HX1 := Lib.hid (And.intro hrx1 (And.intro hca1 hrs1))
  have HN := Lib.hid (show cb ≠ rb ∧ rs ≠ cb ∧ rs ≠ rb ∧ w.heap.size ≤ rs ∧ w.heap.size < cb ∧ w.heap.size < rb ∧ rs < W1.heap.size ∧ cb < W1.heap.size ∧ rb < W1.heap.size by omega)
  have HIH := Lib.hid ih
  clear hr hm hby hW1 hrs hcb hrb hs1 hB1 hrx1 hca1 hrs1 ih
  go_enter Try.func53, Try.ntmps53
  go_upto_region 3 with fail
  rw [← HW.out.1, ← HW.out.2.2.2, ← HW.out.2.2.1, ← HW.out.2.1]
  go_upto_region 5 with (first
    | (go_at_call 60; with_reducible refine (code_callFields cb 0 _).mono ?_; rintro e w2 ⟨bx, bb, rfl, hb, hcx, hrv, hx1, hx2⟩; have F2 := Lib.hid (And.intro hb (And.intro hcx (And.intro hrv (And.intro hx1 hx2)))); clear hb hcx hrv hx1 hx2)
    | (go_at_call 61; with_reducible refine (rd_fill HR.out HBY.out HB1.out HX1.out HN.out F2.out).mono ?_; rintro e w3 ⟨⟨u3, rfl⟩, hf⟩; have F3 := Lib.hid hf; clear hf)
    | (go_at_call 62; with_reducible refine (rd_num (d := q) HR.out HBY.out HB1.out HX1.out HN.out F2.out F3.out HW.out.2.1).mono ?_; rintro e w4 ⟨rfl, hf⟩; have F4 := Lib.hid hf; clear hf F3 F2)
    | fail)
  obtain ⟨N1, hN1, hK⟩ := F4.out
  obtain ⟨nk, hnk⟩ : ∃ nk, nk = (rdN (rdN (rdN (rdN l).2).2).2).1 := ⟨_, rfl⟩
  obtain ⟨k0, hk0⟩ : ∃ k, k = (((rdN l).1 : Nat) : Int) := ⟨_, rfl⟩
  obtain ⟨t0, ht0⟩ : ∃ k, k = (((rdN (rdN l).2).1 : Nat) : Int) := ⟨_, rfl⟩
  obtain ⟨n0, hn0⟩ : ∃ k, k = (((rdN (rdN (rdN l).2).2).1 : Nat) : Int) := ⟨_, rfl⟩
  rw [← hk0, ← ht0, ← hn0] at hK
  rw [← hnk]
  have HRS := Lib.hid (show w4.heap[rs]? = some (.cells zero4 28 (0, 0)) by rw [HW.out.2.1]; exact hK.rs)
  have HK := Lib.hid hK
  have HN1 := Lib.hid hN1
  cases q with
  | zero =>
    have hcl : readC 0 l = .mk k0 t0 n0 [] := by rw [readC, hk0, ht0, hn0]
    have HCL := Lib.hid hcl
    clear hK hN1 F4 hnk hk0 ht0 hn0 hcl
    go_wp2_with (first
      | (refine wpl_loadC _ rfl rfl rfl (rangeAt_whole HK.out.cat) rfl ?_)
      | (refine wpl_storeD (vs := #[.int .i64 k0, .int .i64 t0, .int .i64 n0, .slice none 0 0]) _ _ rfl rfl rfl rfl HRS.out rfl rfl (ones4D k0 t0 n0 _ 0 0) ?_)
      | fail)
    obtain ⟨e1, e2, e3⟩ := rd_end HK.out HW.out.2.1 HN1.out.2.2 HCL.out
    obtain ⟨WF, hWF⟩ : ∃ WF, WF = w4.setRow rs #[.int .i64 k0, .int .i64 t0, .int .i64 n0, .slice none 0 0] := ⟨_, rfl⟩
    rw [← hWF] at e1 e2 e3 ⊢
    have z0 : WF.cell? ⟨rs, 0, none⟩ = some (.int .i64 k0) := by rw [World.cell?, e3]; rfl
    have z1 : WF.cell? ⟨rs, 1, none⟩ = some (.int .i64 t0) := by rw [World.cell?, e3]; rfl
    have z2 : WF.cell? ⟨rs, 2, none⟩ = some (.int .i64 n0) := by rw [World.cell?, e3]; rfl
    have z3 : WF.cell? ⟨rs, 3, none⟩ = some (.slice none 0 0) := by rw [World.cell?, e3]; rfl
    have E := Lib.hid (And.intro e1 e2)
    clear e1 e2 e3 hWF
    exact bodyPost_ret (v := .agg #[.int .i64 k0, .int .i64 t0, .int .i64 n0, .slice none 0 0]) (by simp [results, Try.results53, Act.put, go_sem, z0, z1, z2, z3]) rfl ⟨_, rfl, E.out⟩
  | succ q' =>
    obtain ⟨M, hM⟩ : ∃ M, M = min nk 4 := ⟨_, rfl⟩
    have hcl : readC (q' + 1) l = .mk k0 t0 n0 (readKs (readC q') M (rd4 l)) := by rw [readC, hk0, ht0, hn0, hM, hnk]
    have E1 : min (nk : Int) 4 = (M : Int) := by omega
    have E2 : (if (nk : Int) ≤ 4 then (nk : Int) else 4) = (M : Int) := by split <;> omega
    have E3 : (if (4 : Int) < (nk : Int) then (4 : Int) else (nk : Int)) = (M : Int) := by split <;> omega
    have E4 : (if (nk : Int) < 4 then (nk : Int) else 4) = (M : Int) := by split <;> omega
    have hM4 : (M : Int) ≤ 4 := by omega
    obtain ⟨Q, hQ⟩ : ∃ Q : Int, Q = ((q' + 1 : Nat) : Int) := ⟨_, rfl⟩
    rw [← hQ]
    have gQ : (Q == 0) = false := by rw [beq_eq_false_iff_ne]; omega
    have gQ2 : decide (Q = 0) = false := decide_eq_false (by omega)
    have gQ3 : IntKind.i64.wrap (Q - 1) = (q' : Int) := by rw [IntWalk.i64_in _ (by omega)]; omega
    have HQ := Lib.hid gQ3
    have gQ4 := gQ3
    have HCL := Lib.hid hcl
    have IH := Lib.hid (HIH.out q' rfl)
    have HE := Lib.hid (And.intro E2 (And.intro E3 E4))
    clear hK hN1 F4 hnk hk0 ht0 hn0 hcl hM hQ gQ3 E2 E3 E4 HIH
    go_wp2_with fail
    go_loopw [18] (fun i wr => ∃ (j : Nat) (s : Value) (ys : List C4), j ≤ M ∧ i = .int .i64 j ∧ KSt w cb rb N1 k0 t0 n0 (q' + 1) (readKs (readC q') j (rd4 l)) (restKs j (rd4 l)) s ys wr) (fun i _ => M - (intOf i).toNat)
    case atStart => exact ⟨0, _, _, by omega, rfl, HK.out⟩
    case round =>
      obtain ⟨j, s, ys, hj, rfl, hK⟩ := hrel
      clear HK
      by_cases hlt : j < M
      · have hlt' : (j : Int) < (M : Int) := by omega
        obtain ⟨L0, hL0⟩ : ∃ L0, L0 = restKs j (rd4 l) := ⟨_, rfl⟩
        have hb0 : ByL L0 := by rw [hL0]; exact ByL.restKs (HBY.out.rdN.rdN.rdN.rdN) j
        have hsn := readKs_snoc (readC q') j (rd4 l)
        have hsr := restKs_snoc j (rd4 l)
        have hkl := readKs_len (readC q') j (rd4 l)
        rw [← hL0] at hsn hsr hK
        obtain ⟨ks, hks⟩ : ∃ ks, ks = readKs (readC q') j (rd4 l) := ⟨_, rfl⟩
        rw [← hks] at hsn hkl hK
        have hyl : ys.length = j := by rw [hK.len, hkl]
        obtain ⟨ao2, cap2, hs⟩ := hK.own.lenOf
        rw [hyl] at hs
        subst hs
        have gj0 : (0 : Int) ≤ (j : Int) := by omega
        have gj1 : (j : Int) < ((j + 1 : Nat) : Int) := by omega
        have gj2 : (j : Int) < (j : Int) + 1 := by omega
        have BL := Lib.hid hb0
        have HNN := Lib.hid (show cb < N1 ∧ w.heap.size < cb ∧ rb < N1 ∧ w.heap.size < rb ∧ cb ≠ rb from ⟨HN1.out.2.1, HN.out.2.2.2.2.1, HN1.out.1, HN.out.2.2.2.2.2.1, HN.out.1⟩)
        have c3 := hK.c3
        have c3a := (hK.keep (bel_alloc wr (.cells zero4 28))).c3
        have K0 := Lib.hid (hK.keep (bel_drew wr))
        have K0a := Lib.hid ((hK.keep (bel_alloc wr (.cells zero4 28))).keep (bel_drew _))
        have U0a := Lib.hid (show ((wr.alloc (.cells zero4 28)).drew).heap[wr.heap.size]? = some (.cells zero4 28 (0, 0)) from World.alloc_heap_new wr (.cells zero4 28))
        have S0a := Lib.hid (show wr.heap.size < ((wr.alloc (.cells zero4 28)).drew).heap.size from by show wr.heap.size < (wr.alloc _).heap.size; simp)
        have HYL := Lib.hid hyl
        have HSN := Lib.hid (And.intro hsn hsr)
        have HSR := Lib.hid (show some wr.heap.size ≠ some rb from by have := hK.sz; have := HN1.out.1; simp; omega)
        clear hL0 hb0 hsn hsr hkl hks hyl hK
        go_upto_block 1 with fail
        go_cut [28] (fun p wx => ∃ (s' : Value) (ys' : List C4), KSt w cb rb N1 k0 t0 n0 (q' + 1) (readKs (readC q') (j + 1) (rd4 l)) (restKs (j + 1) (rd4 l)) s' ys' wx)
        case first =>
          go_wp2_with fail
          go_region_law (first
            | (refine step_appC rfl _ _ rfl rfl (by simp [Act.eval, Act.put]) (by simp [Act.eval, Act.put]) r1 ?_)
            | (go_simp; first | (go_at_call 63; with_reducible refine (row_K K0a.out BL.out HNN.out.2.2.2.1 HNN.out.2.2.2.2 HNN.out.2.2.1).mono ?_; rintro e w2 ⟨u2, rfl, hb2, hk2, hg2⟩; have B2 := Lib.hid hb2; have K2 := Lib.hid hk2; have U2 := Lib.hid ((hg2.block wr.heap.size S0a.out HSR.out).trans U0a.out); have c32 := hk2.c3; clear hb2 hk2 hg2) | (go_at_call 63; with_reducible refine (row_K K0.out BL.out HNN.out.2.2.2.1 HNN.out.2.2.2.2 HNN.out.2.2.1).mono ?_; rintro e w2 ⟨u2, rfl, hb2, hk2, hg2⟩; have B2 := Lib.hid hb2; have K2 := Lib.hid hk2; have c32 := hk2.c3; have hk2a := hk2.keep (bel_alloc w2 (.cells zero4 28)); have K2a := Lib.hid hk2a; have c32a := hk2a.c3; have B2a := Lib.hid (hb2.below (bel_alloc w2 (.cells zero4 28))); have U2a := Lib.hid (World.alloc_heap_new w2 (.cells zero4 28)); clear hb2 hk2 hg2 hk2a) | (go_at_call 53; with_reducible refine (read_K IH.out K2.out B2.out (BL.out.row)).mono ?_; rintro e w5 ⟨y5, rfl, hz5, hk5, hb5⟩; have c35 := hk5.c3; have hap := hk5.app HNN.out ((hb5.block _ (Array.getElem?_eq_some_iff.1 U2.out).1).trans U2.out) hz5 K2.out rfl (by have := HYL.out; omega); clear hz5 hk5 hb5; unfold AppQ at hap; obtain ⟨g, cap8, w8, r1, r2, r3, ⟨x1, y1⟩, ⟨x2, y2⟩, F1, F2⟩ := hap; rw [HYL.out] at r1 r2 r3 x2 y2 F1 F2; have FA := Lib.hid F1; have FB := Lib.hid F2; clear F1 F2) | (go_at_call 53; with_reducible refine (read_K IH.out K2a.out B2a.out (BL.out.row)).mono ?_; rintro e w5 ⟨y5, rfl, hz5, hk5, hb5⟩; have c35 := hk5.c3; have hap := hk5.app HNN.out ((hb5.block _ (Array.getElem?_eq_some_iff.1 U2a.out).1).trans U2a.out) hz5 K2a.out rfl (by have := HYL.out; omega); clear hz5 hk5 hb5; unfold AppQ at hap; obtain ⟨g, cap8, w8, r1, r2, r3, ⟨x1, y1⟩, ⟨x2, y2⟩, F1, F2⟩ := hap; rw [HYL.out] at r1 r2 r3 x2 y2 F1 F2; have FA := Lib.hid F1; have FB := Lib.hid F2; clear F1 F2) | (go_at_call 53; with_reducible refine (read_K IH.out K2.out B2.out (BL.out.row)).mono ?_; rintro e w5 ⟨y5, rfl, hz5, hk5, hb5⟩; have c35 := hk5.c3; have hk5a := hk5.keep (bel_alloc w5 (.cells zero4 28)); have c35a := hk5a.c3; have hap := hk5a.app HNN.out (World.alloc_heap_new w5 (.cells zero4 28)) (RdZ.keep (bel_alloc w5 _).size (fun _ _ z => z) (fun x hx _ => (bel_alloc w5 _).block x hx) hz5) K2.out rfl (by have := HYL.out; omega); clear hz5 hk5 hb5 hk5a; unfold AppQ at hap; obtain ⟨g, cap8, w8, r1, r2, r3, ⟨x1, y1⟩, ⟨x2, y2⟩, F1, F2⟩ := hap; rw [HYL.out] at r1 r2 r3 x2 y2 F1 F2; have FA := Lib.hid F1; have FB := Lib.hid F2; clear F1 F2) | fail)
            | fail)
          all_goals go_wp2_with fail
          all_goals go_meet
          all_goals exact ⟨_, _, by rw [HSN.out.1, HSN.out.2]; first | with_reducible exact FA.out | with_reducible exact FB.out | fail⟩
        case rest =>
          obtain ⟨s3, ys3, hk3⟩ := hcut
          have HK3 := Lib.hid hk3
          clear hk3 K0 K0a U0a c3 c3a
          go_wp2_with fail
          go_roundw
          case rel => exact ⟨j + 1, _, _, hlt, by go_num, HK3.out⟩
          case measure => simp [intOf]; omega
      · obtain rfl : j = M := by omega
        have hge : ¬ (j : Int) < (j : Int) := by omega
        have HKF := Lib.hid hK
        have HRF := Lib.hid (show wr.heap[rs]? = some (.cells zero4 28 (0, 0)) by rw [HW.out.2.1]; exact hK.rs)
        obtain ⟨ao2, cap2, hs⟩ := hK.own.lenOf
        obtain ⟨m2, hm2⟩ : ∃ m2, m2 = ys.length := ⟨_, rfl⟩
        rw [← hm2] at hs
        subst hs
        clear hK hm2 hlt hj
        go_wp2_with (first
          | (refine wpl_loadC _ rfl rfl rfl (rangeAt_whole HKF.out.cat) rfl ?_)
          | (refine wpl_storeD (vs := #[.int .i64 k0, .int .i64 t0, .int .i64 n0, .slice ao2 m2 cap2]) _ _ rfl rfl rfl rfl HRF.out rfl rfl (ones4D k0 t0 n0 _ _ _) ?_)
          | fail)
        obtain ⟨e1, e2, e3⟩ := rd_end HKF.out HW.out.2.1 HN1.out.2.2 HCL.out
        obtain ⟨WF, hWF⟩ : ∃ WF, WF = wr.setRow rs #[.int .i64 k0, .int .i64 t0, .int .i64 n0, .slice ao2 m2 cap2] := ⟨_, rfl⟩
        rw [← hWF] at e1 e2 e3 ⊢
        have z0 : WF.cell? ⟨rs, 0, none⟩ = some (.int .i64 k0) := by rw [World.cell?, e3]; rfl
        have z1 : WF.cell? ⟨rs, 1, none⟩ = some (.int .i64 t0) := by rw [World.cell?, e3]; rfl
        have z2 : WF.cell? ⟨rs, 2, none⟩ = some (.int .i64 n0) := by rw [World.cell?, e3]; rfl
        have z3 : WF.cell? ⟨rs, 3, none⟩ = some (.slice ao2 m2 cap2) := by rw [World.cell?, e3]; rfl
        have E := Lib.hid (And.intro e1 e2)
        clear e1 e2 e3 hWF
        exact bodyPost_ret (v := .agg #[.int .i64 k0, .int .i64 t0, .int .i64 n0, .slice ao2 m2 cap2]) (by simp [results, Try.results53, Act.put, go_sem, z0, z1, z2, z3]) rfl ⟨_, rfl, E.out⟩
theorem code_readCall : ∀ q, q ≤ 3 → RdCall q := by
  intro q
  induction q with
  | zero => intro h; exact code_readCallH 0 h (fun q' e => by omega)
  | succ q ih => intro h; exact code_readCallH (q + 1) h (fun q' e => by obtain rfl : q' = q := by omega
                                                                         exact ih (by omega))
end Go.Proofs.Ytbndegkgpoemnaa
end

section
namespace Go.Proofs.Ytbndegkgpoemnaa
open Go.RowKit
set_option linter.unusedVariables false
set_option linter.unusedSimpArgs false

theorem numsL_len : ∀ l : List Int, (numsL l).length ≤ 9 * l.length
  | [] => by simp [numsL]
  | n :: l => by
    have := numL_length (heldN n)
    have := numsL_len l
    rw [numsL, List.length_append, List.length_cons]; omega
theorem rdB_nilE (w : World) : RdB w (.slice none 0 0) [] := Or.inl ⟨rfl, rfl⟩
def vnums (v : Vt) : List Int := [v.kind, v.a, v.n, v.s, v.level]
def ayeN (v : Vt) : Int := if v.aye = true then 1 else 0
/-- The bytes of an extrinsic's call: none where there is none. -/
def callB (e : Ex) (c : Cl) : List Nat := if e.ck = 0 then [] else layT c
/-- An extrinsic's bytes. -/
def layE (e : Ex) (c : Cl) : List Nat := numsL e.hd ++ e.sum ++ numsL (vnums e.vote) ++ numsL [ayeN e.vote] ++ rowL (callB e c)
theorem ExAt.belowB {w : World} {b B : Nat} {e : Ex} {W W' : World} (h : ExAt w b e W) (hb : b < B) (hw : w.heap.size ≤ B) (hb' : Below B W W') : ExAt w b e W' :=
  ⟨h.old.trans (hb'.mono hw), (hb'.block b hb).trans h.c⟩
theorem ExAt.vcell {w : World} {b : Nat} {e : Ex} {W : World} (h : ExAt w b e W) : ∀ j u, (vtc e.vote)[j]? = some u → W.cell? ⟨b, 39 + j, none⟩ = some u :=
  rangeAt_sub (A := Is e.hd ++ Bs e.sum) (M := vtc e.vote) (C := callc e) h.c (by simp [ec]) (k := 39) (by simp [Is, Bs, e.h7, e.h32])
theorem points5 {w : World} {b : Nat} {e : Ex} {W : World} (h : ExAt w b e W) :
    Points W.heap.size W.heap.size [.pointer (some ⟨b, 39, none⟩), .pointer (some ⟨b, 39 + 3, none⟩), .pointer (some ⟨b, 39 + 4, none⟩), .pointer (some ⟨b, 39 + 5, none⟩), .pointer (some ⟨b, 39 + 2, none⟩)] (vnums e.vote) W := by
  have hb : b < W.heap.size := (Array.getElem?_eq_some_iff.1 h.c).1
  have hc := h.vcell
  refine ⟨by simp [vnums], fun i v hi => ?_⟩
  match i, hi with
  | 0, hi => simp at hi; subst hi; exact ⟨b, 39, rfl, hb, by omega, hc 0 _ rfl⟩
  | 1, hi => simp at hi; subst hi; exact ⟨b, 39 + 3, rfl, hb, by omega, hc 3 _ rfl⟩
  | 2, hi => simp at hi; subst hi; exact ⟨b, 39 + 4, rfl, hb, by omega, hc 4 _ rfl⟩
  | 3, hi => simp at hi; subst hi; exact ⟨b, 39 + 5, rfl, hb, by omega, hc 5 _ rfl⟩
  | 4, hi => simp at hi; subst hi; exact ⟨b, 39 + 2, rfl, hb, by omega, hc 2 _ rfl⟩
  | i + 5, hi => simp at hi
theorem sumRd {w : World} {b : Nat} {e : Ex} {W : World} (h : ExAt w b e W) {cap : Nat} (hcap : 32 ≤ cap) : RdB W (.slice (some ⟨b, 7, none⟩) 32 cap) e.sum := by
  have hr := rangeAt_sub (A := Is e.hd) (M := Bs e.sum) (C := vtc e.vote ++ callc e) h.c (by simp [ec]) (k := 7) (by simp [Is, e.h7])
  refine .inr ⟨⟨b, 7, none⟩, cap, by rw [e.h32], by rw [e.h32]; exact hcap, fun i hi => ?_⟩
  rw [Addr.add_mid]
  refine hr i _ ?_
  simp [Bs, hi]
theorem one_rdI (w : World) (x : Int) : RdI (w.alloc (.cells #[.int .i64 x] 3)) (.slice (some ⟨w.heap.size, 0, none⟩) 1 1) [x] := by
  refine .inr ⟨⟨w.heap.size, 0, none⟩, 1, rfl, Nat.le_refl _, fun i hi => ?_⟩
  obtain rfl : i = 0 := by simpa using hi
  show (w.alloc (.cells #[.int .i64 x] 3)).cell? ⟨w.heap.size, 0 + 0, none⟩ = some (.int .i64 x)
  rw [World.cell?, World.alloc_heap_new]; rfl
attribute [local go_sem ↓] load_e load_c
set_option maxHeartbeats 8000000 in
set_option maxRecDepth 100000 in
theorem code_EncodeExtH (e : Ex) (c : Cl) (d : Nat) (ok : Bool) (w : World) (hrd : RdC w d (.agg #[.int .i64 e.ck, .int .i64 e.ct, .int .i64 e.cn, .slice e.ca e.m e.cc]) c)
    (hok : ∀ W, Below w.heap.size w W → Calls Try.prog 16 #[.agg (ec e).toArray] W fun x w' => x = .returned (.bool ok) ∧ Below W.heap.size W w') (hL : ok = true → e.ck ≠ 0 → (layT c).length ≤ 100000) :
    Calls Try.prog 11 #[.agg (ec e).toArray] w fun x w' => ∃ u, x = .returned (.tuple #[u, .int .i64 (if ok then 0 else 1)]) ∧ OwnB w.heap.size u (Bs (if ok then layE e c else [])) w' ∧ Below w.heap.size w w' := by
  obtain ⟨W, hW⟩ : ∃ W, W = w.alloc (.cells (ec e).toArray 30) := ⟨_, rfl⟩
  obtain ⟨cb, hcb⟩ : ∃ cb, cb = w.heap.size := ⟨_, rfl⟩
  have hA : ExAt w cb e W := by
    rw [hW, hcb]
    exact ⟨(Below.refl _ w).alloc (Nat.le_refl _) _, World.alloc_heap_new _ _⟩
  have hls : W.heap.size = cb + 1 := by rw [hW, hcb]; simp
  have A0 := Lib.hid hA
  have HLS := Lib.hid (show w.heap.size = cb ∧ W.heap.size = cb + 1 from ⟨hcb.symm, hls⟩)
  have HOK := Lib.hid hok
  have HRD := Lib.hid hrd
  have LE0 := run_loadE hA.c
  clear hA hls hok hrd
  cases ok
  case false =>
    go_enter Try.func11, Try.ntmps11
    go_upto_region 1 with fail
    rw [← hW, ← hcb]
    clear hW hcb
    go_wp2_with (first
      | (go_at_call 16; with_reducible refine (HOK.out _ A0.out.old).mono ?_; rintro x w1 ⟨rfl, hb⟩; have A1 := Lib.hid (A0.out.below hb); clear hb)
      | fail)
    exact bodyPost_ret (v := .tuple #[.slice none 0 0, .int .i64 1]) (by simp [results, Try.results11, go_sem]) rfl ⟨_, rfl, World.ownsRow_nil _ _ _ 1, A1.out.old⟩
  case true =>
  have HLT := Lib.hid (hL rfl)
  clear hL
  have hz : (e.ck = 0 ∧ (e.ck != 0) = false ∧ callB e c = []) ∨ (e.ck ≠ 0 ∧ (e.ck != 0) = true ∧ callB e c = layT c) := by
    by_cases q : e.ck = 0
    · exact Or.inl ⟨q, by simp [q], by simp [callB, q]⟩
    · exact Or.inr ⟨q, by simp [q], by simp [callB, q]⟩
  have HZ := Lib.hid hz
  have hcl : (callB e c).length ≤ 100000 := by
    rcases hz with ⟨-, -, h⟩ | ⟨h1, -, h⟩
    · rw [h]; simp
    · rw [h]; exact HLT.out h1
  have n1 := numsL_len e.hd
  have n2 := numsL_len (vnums e.vote)
  have n3 := numsL_len [ayeN e.vote]
  have n4 := e.h7
  have n5 := e.h32
  obtain ⟨P1, hP1⟩ : ∃ P, P = numsL e.hd := ⟨_, rfl⟩
  obtain ⟨P2, hP2⟩ : ∃ P, P = P1 ++ e.sum := ⟨_, rfl⟩
  obtain ⟨P3, hP3⟩ : ∃ P, P = P2 ++ numsL (vnums e.vote) := ⟨_, rfl⟩
  obtain ⟨P4, hP4⟩ : ∃ P, P = P3 ++ numsL [ayeN e.vote] := ⟨_, rfl⟩
  have l1 : P1.length ≤ 63 := by rw [hP1]; omega
  have l2 : P2.length ≤ 95 := by rw [hP2, List.length_append]; omega
  have l3 : P3.length ≤ 140 := by rw [hP3, List.length_append]; have : (vnums e.vote).length = 5 := rfl; omega
  have l4 : P4.length ≤ 149 := by rw [hP4, List.length_append]; simp only [List.length_singleton] at n3; omega
  have hfin : P4 ++ rowsL [callB e c] = layE e c := by rw [hP4, hP3, hP2, hP1]; simp [layE, rowsL]
  have HP := Lib.hid (And.intro hP1 (And.intro hP2 (And.intro hP3 (And.intro hP4 hfin))))
  have HL := Lib.hid (And.intro l1 (And.intro l2 (And.intro l3 (And.intro l4 (And.intro n4 (And.intro n5 hcl))))))
  clear hP1 hP2 hP3 hP4 hfin l1 l2 l3 l4 n1 n2 n3 n4 n5 hcl hz HLT
  go_enter Try.func11, Try.ntmps11
  go_upto_region 1 with fail
  rw [← hW, ← hcb]
  clear hW hcb
  go_upto_region 7 with (first
    | (go_at_call 16; with_reducible refine (HOK.out _ A0.out.old).mono ?_; rintro x w1 ⟨rfl, hb⟩; have A1 := Lib.hid (A0.out.below hb); clear hb)
    | (go_at_call 29; with_reducible refine (code_headFields cb 0 _).mono ?_; rintro x w2 ⟨bx, bb, rfl, hb, hcx, hrv, hx1, hx2⟩; have A2 := Lib.hid (A1.out.below hb); have F2 := Lib.hid (And.intro hcx (And.intro hrv (And.intro hx1 hx2))); clear hb hcx hrv hx1 hx2)
    | (go_at_call 28; with_reducible refine (code_numbers _ _ 7 _ e.hd _ F2.out.1 F2.out.2.2.1 F2.out.2.2.2 F2.out.2.1 (by simp) (points7 A2.out.c)).mono ?_; rintro x w3 ⟨v3, rfl, ho, hb⟩; have A3 := Lib.hid (A2.out.below hb); have I3 := Lib.hid ho.readsI; clear ho hb)
    | (go_at_call 27; with_reducible refine (compact_Put _ _ [] e.hd _ (rdB_nilE _) I3.out (by simp) (by have := HL.out.2.2.2.2.1; omega)).mono ?_; unfold OwnRet; rintro x w4 ⟨v4, rfl, ho, hb, hs⟩; rw [List.nil_append, ← HP.out.1] at ho; have A4 := Lib.hid (A3.out.below hb); have O4 := Lib.hid (And.intro ho (And.intro hs (show cb < w3.heap.size from (Array.getElem?_eq_some_iff.1 A3.out.c).1))); clear ho hb hs)
    | (refine wp_app_B rfl rfl rfl rfl O4.out.1 (sumRd (cap := 32) A4.out (by decide)) (by have := HL.out.1; have := HL.out.2.2.2.2.2.1; omega) O4.out.2.1 ?_; intro v5 w5 ho hb hs hg; rw [← HP.out.2.1] at ho; have A5 := Lib.hid (A4.out.belowB O4.out.2.2 (by have := HLS.out.1; have := O4.out.2.2; omega) hb); have O5 := Lib.hid ho; clear ho hb hs hg)
    | (go_at_call 30; with_reducible refine (code_voteFields cb 39 _).mono ?_; rintro x w6 ⟨bx6, bb6, rfl, hb, hcx, hrv, hx1, hx2⟩; have A6 := Lib.hid (A5.out.below hb); have O6 := Lib.hid (O5.out.reads.below hb); have F6 := Lib.hid (And.intro hcx (And.intro hrv (And.intro hx1 hx2))); clear hb hcx hrv hx1 hx2)
    | (go_at_call 28; with_reducible refine (code_numbers _ _ 5 _ (vnums e.vote) _ F6.out.1 F6.out.2.2.1 F6.out.2.2.2 F6.out.2.1 (by simp) (points5 A6.out)).mono ?_; rintro x w7 ⟨v7, rfl, ho, hb⟩; have A7 := Lib.hid (A6.out.below hb); have O7 := Lib.hid (O6.out.below hb); have I7 := Lib.hid ho.readsI; clear ho hb)
    | (go_at_call 27; with_reducible refine (compact_Put _ _ P2 (vnums e.vote) _ O7.out I7.out (by have := HL.out.2.1; omega) (by simp [vnums])).mono ?_; unfold OwnRet; rintro x w8 ⟨v8, rfl, ho, hb, hs⟩; rw [← HP.out.2.2.1] at ho; have A8 := Lib.hid (A7.out.below hb); have O8 := Lib.hid ho.reads; clear ho hb hs)
    | fail)
  have ya : w8.cell? ⟨cb, 40, none⟩ = some (.bool e.vote.aye) := A8.out.vcell 1 _ rfl
  obtain ⟨ay, hay⟩ : ∃ q, q = e.vote.aye := ⟨_, rfl⟩
  have hayN : ayeN e.vote = if ay = true then 1 else 0 := by rw [hay]; rfl
  rw [← hay] at ya
  have HAY := Lib.hid hayN
  clear hay hayN A0 A1 A2 A3 A4 A5 A6 A7 I3 I7 O4 O5 O6 O7 F2 F6
  rcases HZ.out with ⟨z1, z2, z3⟩ | ⟨z1, z2, z3⟩
  · have hP4 : P4 = P3 ++ numsL [if ay = true then 1 else 0] := by rw [HP.out.2.2.2.1, HAY.out]
    have hbk : P4.length + bulkL [([] : List Nat)] ≤ 1000000000 := by have := HL.out.2.2.2.1; simp only [bulkL, List.length_nil]; omega
    have hfe : P4 ++ rowsL [([] : List Nat)] = layE e c := by rw [← HP.out.2.2.2.2, z3]
    have HX := Lib.hid (And.intro hP4 (And.intro hbk hfe))
    clear hP4 hbk hfe z3
    cases ay
    all_goals
      go_wp2_with (first
        | (go_at_call 27; with_reducible refine (compact_Put _ _ P3 [_] _ (O8.out.below (bel_alloc w8 _)) (one_rdI w8 _) (by have := HL.out.2.2.1; omega) (by simp)).mono ?_; unfold OwnRet; rintro x w9 ⟨v9, rfl, ho, hb, hs⟩; have A9 := Lib.hid ((A8.out.below (bel_alloc w8 _)).below hb); have p45 := A9.out.part.2.1; have O9 := Lib.hid (show RdB w9 v9 P4 by have h := HX.out.1; simp only [Bool.false_eq_true, if_false, if_true] at h; rw [h]; exact ho.reads); clear ho hb hs)
        | (go_at_call 32; with_reducible refine (compact_Row v9 _ P4 [[]] _ (O9.out.below (bel_alloc w9 _)) (rdBB_oneC (rdB_nilE w9)) HX.out.2.1 (by simp [maxLen])).mono ?_; unfold OwnRet; rintro x w11 ⟨v11, rfl, ho, hb, hs⟩; rw [HX.out.2.2] at ho; have A11 := Lib.hid ((A9.out.below (bel_alloc w9 _)).below hb); have O11 := Lib.hid (And.intro ho (show w.heap.size ≤ (w9.alloc (.cells #[.slice none 0 0] 31)).heap.size from (A9.out.below (bel_alloc w9 _)).old.size)); clear ho hb hs)
        | fail)
      exact bodyPost_ret (v := .tuple #[v11, .int .i64 0]) (by simp [results, Try.results11, go_sem]) rfl ⟨_, rfl, OwnB.ofC O11.out.1 O11.out.2 (fun _ _ => rfl), A11.out.old⟩
  · have hcl := HL.out.2.2.2.2.2.2
    rw [z3] at hcl
    have HCL := Lib.hid hcl
    clear hcl
    have hP4 : P4 = P3 ++ numsL [if ay = true then 1 else 0] := by rw [HP.out.2.2.2.1, HAY.out]
    have hbk : P4.length + bulkL [layT c] ≤ 1000000000 := by have := HL.out.2.2.2.1; have := HCL.out; simp only [bulkL]; omega
    have hfe : P4 ++ rowsL [layT c] = layE e c := by rw [← HP.out.2.2.2.2, z3]
    have HX := Lib.hid (And.intro hP4 (And.intro hbk hfe))
    clear hP4 hbk hfe z3
    cases ay
    all_goals
      go_wp2_with (first
        | (go_at_call 27; with_reducible refine (compact_Put _ _ P3 [_] _ (O8.out.below (bel_alloc w8 _)) (one_rdI w8 _) (by have := HL.out.2.2.1; omega) (by simp)).mono ?_; unfold OwnRet; rintro x w9 ⟨v9, rfl, ho, hb, hs⟩; have A9 := Lib.hid ((A8.out.below (bel_alloc w8 _)).below hb); have p45 := A9.out.part.2.1; have LC := run_loadC A9.out.c; have O9 := Lib.hid (show RdB w9 v9 P4 by have h := HX.out.1; simp only [Bool.false_eq_true, if_false, if_true] at h; rw [h]; exact ho.reads); clear ho hb hs)
        | (go_at_call 31; with_reducible refine (code_lay d c _ w9 HCL.out (HRD.out.below A9.out.old)).mono ?_; unfold OwnRet; rintro x w10 ⟨v10, rfl, ho, hb, hs⟩; obtain ⟨a6, c6, hv6⟩ := ho.reads.lenOf; obtain ⟨z, hz⟩ : ∃ z, z = (layT c).length := ⟨_, rfl⟩; rw [← hz] at hv6; subst hv6; have A10 := Lib.hid (A9.out.below hb); have O10 := Lib.hid (O9.out.below hb); have L10 := Lib.hid ho.reads; clear hz ho hb hs)
        | (go_at_call 32; with_reducible refine (compact_Row v9 _ P4 [layT c] _ (O10.out.below (bel_alloc w10 _)) (rdBB_oneC L10.out) HX.out.2.1 (by simp [maxLen])).mono ?_; unfold OwnRet; rintro x w11 ⟨v11, rfl, ho, hb, hs⟩; rw [HX.out.2.2] at ho; have A11 := Lib.hid ((A10.out.below (bel_alloc w10 _)).below hb); have O11 := Lib.hid (And.intro ho (show w.heap.size ≤ (w10.alloc (.cells #[.slice a6 z c6] 31)).heap.size from (A10.out.below (bel_alloc w10 _)).old.size)); clear ho hb hs)
        | fail)
      exact bodyPost_ret (v := .tuple #[v11, .int .i64 0]) (by simp [results, Try.results11, go_sem]) rfl ⟨_, rfl, OwnB.ofC O11.out.1 O11.out.2 (fun _ _ => rfl), A11.out.old⟩
end Go.Proofs.Ytbndegkgpoemnaa
end

section
namespace Go.Proofs.Ytbndegkgpoemnaa
open Go.RowKit
set_option linter.unusedVariables false
set_option linter.unusedSimpArgs false

def rdNs : Nat → List Nat → List Nat
  | 0, _ => []
  | k + 1, l => (rdN l).1 :: rdNs k (rdN l).2
def restN : Nat → List Nat → List Nat
  | 0, l => l
  | k + 1, l => restN k (rdN l).2
theorem ByL.restN {l : List Nat} (h : ByL l) : ∀ k, ByL (Proofs.Ytbndegkgpoemnaa.restN k l)
  | 0 => h
  | k + 1 => ByL.restN h.rdN k
theorem rdNs_nums : ∀ (ns : List Int) (t : List Nat), (∀ n ∈ ns, 0 ≤ n ∧ n ≤ 1073741824) → (rdNs ns.length (numsL ns ++ t)).map Int.ofNat = ns ∧ restN ns.length (numsL ns ++ t) = t
  | [], t, _ => ⟨rfl, rfl⟩
  | n :: ns, t, h => by
    obtain ⟨h0, h1⟩ := h n (by simp)
    obtain ⟨k1, k2⟩ := held_id h0 h1
    obtain ⟨i1, i2⟩ := rdNs_nums ns t (fun x hx => h x (List.mem_cons_of_mem _ hx))
    have e : rdN (numsL (n :: ns) ++ t) = (n.toNat, numsL ns ++ t) := by
      rw [numsL, List.append_assoc, k1, rdN_num (by omega)]
    constructor
    · rw [List.length_cons, rdNs, e, List.map_cons, i1]
      simp only [Int.ofNat_eq_natCast, k2]
    · rw [List.length_cons, restN, e, i2]
/-- How many bytes a digest takes: 32, or all there are. -/
def sumK (l : List Nat) : Nat := min 32 l.length
def sumR (l : List Nat) : List Nat := l.take (sumK l) ++ List.replicate (32 - sumK l) 0
theorem sumR_len (l : List Nat) : (sumR l).length = 32 := by
  unfold sumR sumK
  rw [List.length_append, List.length_take, List.length_replicate]; omega
theorem sumR_full {s t : List Nat} (h : s.length = 32) : sumR (s ++ t) = s ∧ (s ++ t).drop (sumK (s ++ t)) = t := by
  have hk : sumK (s ++ t) = 32 := by unfold sumK; rw [List.length_append]; omega
  unfold sumR
  rw [hk, ← h, List.take_left, List.drop_left]
  simp
def lSum (l : List Nat) : List Nat := restN 7 l
def lVote (l : List Nat) : List Nat := (lSum l).drop (sumK (lSum l))
def lAye (l : List Nat) : List Nat := restN 5 (lVote l)
def lCall (l : List Nat) : List Nat := (rdN (lAye l)).2
/-- The vote that is read. -/
def voteR (l : List Nat) : Vt := ⟨((rdNs 5 (lVote l)).getD 0 0 : Nat), decide ((rdN (lAye l)).1 = 1), ((rdNs 5 (lVote l)).getD 4 0 : Nat), ((rdNs 5 (lVote l)).getD 1 0 : Nat), ((rdNs 5 (lVote l)).getD 2 0 : Nat), ((rdNs 5 (lVote l)).getD 3 0 : Nat)⟩
def callR (l : List Nat) : Cl := readC 3 (rdR (lCall l)).1
/-- An extrinsic is what the bytes are read as. -/
structure ReadsE (l : List Nat) (e : Ex) (c : Cl) : Prop where
  hd : e.hd = (rdNs 7 l).map Int.ofNat
  sum : e.sum = sumR (lSum l)
  vote : e.vote = voteR l
  call : c = callR l
  ck : e.ck = c.k
  ct : e.ct = c.t
  cn : e.cn = c.n
  m : e.m = c.kids.length
theorem fillA_rest : ∀ (ps : List Nat) (l : List Nat) (C : Array Value), (fillA ps l C).2 = restN ps.length l
  | [], l, C => rfl
  | p :: ps, l, C => by rw [fillA, fillA_rest ps, List.length_cons, restN]
theorem fillA_vals : ∀ (ps : List Nat) (l : List Nat) (C : Array Value), (fillA ps l C).1 = (ps.zip (rdNs ps.length l)).foldl (fun C x => C.setIfInBounds x.1 (.int .i64 (x.2 : Nat))) C
  | [], l, C => rfl
  | p :: ps, l, C => by rw [fillA, fillA_vals ps, List.length_cons, rdNs]; rfl
theorem fill_head (l : List Nat) : (fillA [0, 1, 2, 3, 4, 5, 6] l (ec exZero).toArray).1 = (ec ⟨(rdNs 7 l).map Int.ofNat, by simp [rdNs], List.replicate 32 0, by simp, ⟨0, false, 0, 0, 0, 0⟩, 0, 0, 0, none, 0, 0⟩).toArray := by
  rw [fillA_vals]
  simp only [List.length_cons, List.length_nil, rdNs, List.zip_cons_cons, List.zip_nil_right, List.foldl_cons, List.foldl_nil]
  rfl
theorem fill_vote (l : List Nat) (hd : List Int) (h7 : hd.length = 7) (sm : List Nat) (h32 : sm.length = 32) : (fillA [39, 42, 43, 44, 41] l (ec ⟨hd, h7, sm, h32, ⟨0, false, 0, 0, 0, 0⟩, 0, 0, 0, none, 0, 0⟩).toArray).1 =
    (ec ⟨hd, h7, sm, h32, ⟨((rdNs 5 l).getD 0 0 : Nat), false, ((rdNs 5 l).getD 4 0 : Nat), ((rdNs 5 l).getD 1 0 : Nat), ((rdNs 5 l).getD 2 0 : Nat), ((rdNs 5 l).getD 3 0 : Nat)⟩, 0, 0, 0, none, 0, 0⟩).toArray := by
  rw [fillA_vals]
  simp only [List.length_cons, List.length_nil, rdNs, List.zip_cons_cons, List.zip_nil_right, List.foldl_cons, List.foldl_nil]
  have hA : ∀ (M C : List Value) (j : Nat) (x : Value), j < M.length → (Is hd ++ (Bs sm ++ (M ++ C))).toArray.setIfInBounds (39 + j) x = (Is hd ++ (Bs sm ++ (M.set j x ++ C))).toArray := fun M C j x hj => by
    apply Array.ext'
    have e1 : (Is hd ++ (Bs sm ++ (M ++ C))) = (Is hd ++ Bs sm) ++ (M ++ C) := by simp
    have hl : (Is hd ++ Bs sm).length = 39 := by simp [Is, Bs, h7, h32]
    simp only [Array.toList_setIfInBounds]
    rw [e1, List.set_append_right _ _ (by omega), hl, show 39 + j - 39 = j by omega, List.set_append_left _ _ hj]
    simp
  simp only [ec, vtc]
  rw [show (39 : Nat) = 39 + 0 from rfl, hA _ _ 0 _ (by simp)]
  rw [show (42 : Nat) = 39 + 3 from rfl, hA _ _ 3 _ (by simp)]
  rw [show (43 : Nat) = 39 + 4 from rfl, hA _ _ 4 _ (by simp)]
  rw [show (44 : Nat) = 39 + 5 from rfl, hA _ _ 5 _ (by simp)]
  rw [show (41 : Nat) = 39 + 2 from rfl, hA _ _ 2 _ (by simp)]
  rfl
end Go.Proofs.Ytbndegkgpoemnaa
end

section
namespace Go.Proofs.Ytbndegkgpoemnaa
open Go.RowKit
set_option linter.unusedVariables false
set_option linter.unusedSimpArgs false

/-- What readExt keeps while it reads. -/
structure ESt (w : World) (rs eb rb : Nat) (e : Ex) (R : List Nat) (W : World) : Prop where
  old : Below w.heap.size w W
  rs_ : W.heap[rs]? = some (.cells (ec exZero).toArray 30 (0, 0))
  at_ : W.heap[eb]? = some (.cells (ec e).toArray 30 (0, 0))
  rdr : ∃ v', RBx W rb v' ∧ RdB w v' R
/-- The places. -/
structure EPl (w : World) (rs eb rb : Nat) : Prop where
  rs_ : rs = w.heap.size
  eb_ : eb = w.heap.size + 1
  rb_ : rb = w.heap.size + 1 + 1
theorem ESt.below {w : World} {rs eb rb : Nat} {e : Ex} {R : List Nat} {W W' : World} (h : ESt w rs eb rb e R W) (hb : Below W.heap.size W W') : ESt w rs eb rb e R W' := by
  obtain ⟨v', h1, h2⟩ := h.rdr
  exact ⟨h.old.trans (hb.mono h.old.size), (hb.block rs (Array.getElem?_eq_some_iff.1 h.rs_).1).trans h.rs_, (hb.block eb (Array.getElem?_eq_some_iff.1 h.at_).1).trans h.at_, v', (hb.block rb h1.lt).trans h1, h2⟩
/-- All but the reader and the extrinsic is as it was. -/
theorem ESt.turn {w : World} {rs eb rb : Nat} {e e' : Ex} {R R' : List Nat} {W W' : World} (h : ESt w rs eb rb e R W) (hp : EPl w rs eb rb) (hg : Grow W W') (hk : ∀ k, k < W.heap.size → k ≠ rb → k ≠ eb → W'.heap[k]? = W.heap[k]?)
    (ha : W'.heap[eb]? = some (.cells (ec e').toArray 30 (0, 0))) {v' : Value} (hr : RBx W' rb v') (hb : RdB w v' R') : ESt w rs eb rb e' R' W' := by
  obtain ⟨p1, p2, p3⟩ := hp
  have hs := h.old.size
  exact ⟨⟨hg.os.trans h.old.os, hg.tape.trans h.old.tape, hg.output.trans h.old.output, Nat.le_trans hs hg.size, fun k hk' => (hk k (by omega) (by omega) (by omega)).trans (h.old.block k hk')⟩,
    (hk rs (Array.getElem?_eq_some_iff.1 h.rs_).1 (by omega) (by omega)).trans h.rs_, ha, v', hr, hb⟩
theorem ESt.num {w : World} {rs eb rb : Nat} {e : Ex} {R R' : List Nat} {W W' : World} (h : ESt w rs eb rb e R W) (hp : EPl w rs eb rb) (hg : W.grownBy W' (some rb)) {v' : Value} (hr : RBx W' rb v') (hb : RdB w v' R') : ESt w rs eb rb e R' W' :=
  h.turn hp ⟨hg.os, hg.tape, hg.output, hg.size⟩ (fun k hk h1 _ => hg.block k hk (by simpa using h1)) ((hg.block eb (Array.getElem?_eq_some_iff.1 h.at_).1 (by obtain ⟨p1, p2, p3⟩ := hp; simp; omega)).trans h.at_) hr hb
/-- Numbers filled into the extrinsic. -/
theorem ESt.fill {w : World} {rs eb rb : Nat} {e e' : Ex} {R : List Nat} {W : World} (h : ESt w rs eb rb e R W) (hp : EPl w rs eb rb) (hby : ByL R) (pos : List Nat) (hpos : ∀ p ∈ pos, p < 49) (hl : pos.length ≤ 900) (h0 : 0 < pos.length) {m : Nat} (hm : m = pos.length)
    (he : (fillA pos R (ec e).toArray).1 = (ec e').toArray) {bx bb : Nat} {p0 : Nat} (hp0 : (ptrs eb pos)[0]? = some (.pointer (some ⟨eb, p0, none⟩)))
    (hcx : W.cell? ⟨bx, 0, none⟩ = some (.slice (some ⟨bb, 0, none⟩) m m)) (hrv : RowV W bb (ptrs eb pos)) (hx1 : bx < W.heap.size) (hx2 : bb < W.heap.size) :
    Calls Try.prog 61 #[.pointer (some ⟨rb, 0, none⟩), .func (.func 76) #[] #[.pointer (some ⟨bx, 0, none⟩)]] W fun x w' => (∃ u, x = .returned u) ∧ ESt w rs eb rb e' (restN pos.length R) w' := by
  subst hm
  obtain ⟨v', r1, r2⟩ := h.rdr
  have hp' := hp
  obtain ⟨p1, p2, p3⟩ := hp'
  have hc0 : W.cell? ⟨eb, 0, none⟩ = some (.int .i64 (e.hd.getD 0 0)) := by
    rw [World.cell?, h.at_]
    have hi2 : 0 < e.hd.length := by rw [e.h7]; omega
    simp [ec, Is, List.getElem?_append, hi2]
  have hln : (ptrs eb pos).length = pos.length := by simp [ptrs]
  obtain ⟨⟨a1, a2⟩, a3, a4⟩ := fields_apart h0 hcx (hrv 0 _ hp0) r1 r2 h.old hc0
  refine (code_fill rb eb bx bb pos.length 30 pos R (ec e).toArray v' w W h.old r2 r1 hby h.at_ (by omega) ⟨by omega, by omega⟩ (by intro p hp; have := ec_len e; have := hpos p hp; simp only [List.size_toArray]; omega) (by rw [hln]; exact hcx) ⟨hx1, a1, a2⟩ ⟨hx2, a3, a4⟩ hrv (by rw [hln]; exact hl)).mono ?_
  rintro x w' ⟨h1, ⟨h2, h3⟩, v2, h4, h5, h6⟩
  rw [fillA_rest] at h5
  rw [he] at h6
  exact ⟨h1, h.turn hp h2 (fun k hk n1 n2 => h3 k hk n1 n2) h6 h4 h5⟩
theorem ESt.number {w : World} {rs eb rb : Nat} {e : Ex} {R : List Nat} {W : World} (h : ESt w rs eb rb e R W) (hp : EPl w rs eb rb) (hby : ByL R) :
    Calls Try.prog 62 #[.pointer (some ⟨rb, 0, none⟩)] W fun x w' => x = .returned (.int .i64 ((rdN R).1 : Nat)) ∧ ESt w rs eb rb e (rdN R).2 w' := by
  obtain ⟨v', r1, r2⟩ := h.rdr
  refine (code_number rb v' R w W h.old r2 r1 hby).mono ?_
  rintro x w' ⟨h1, h2, v2, h3, h4⟩
  exact ⟨h1, h.num hp h2 h3 h4⟩
theorem ESt.row {w : World} {rs eb rb : Nat} {e : Ex} {R : List Nat} {W : World} (h : ESt w rs eb rb e R W) (hp : EPl w rs eb rb) (hby : ByL R) :
    Calls Try.prog 63 #[.pointer (some ⟨rb, 0, none⟩)] W fun x w' => ∃ u, x = .returned u ∧ RdB w' u (rdR R).1 ∧ ESt w rs eb rb e (rdR R).2 w' := by
  obtain ⟨v', r1, r2⟩ := h.rdr
  refine (code_row rb v' R w W h.old r2 r1 hby).mono ?_
  rintro x w' ⟨u, rfl, h0, h2, v2, h3, h4⟩
  exact ⟨u, rfl, h0.reads, h.num hp h2 h3 h4⟩
/-- The digest, copied. -/
theorem ESt.sum {w : World} {rs eb rb : Nat} {e : Ex} {R : List Nat} {W : World} (h : ESt w rs eb rb e R W) (hz : e.sum = List.replicate 32 0) {ao : Option Addr} {n cap : Nat} (hn : n = R.length) (hr : RdB w (.slice ao n cap) R) :
    ∃ X, (Builtin.copy_ #[31, 31] 3 #[.slice (some ⟨eb, 7, none⟩) 32 32, .slice ao n cap]).run Try.prog W = .ok (.int .i64 (sumK R : Nat)) X ∧ Grow W X ∧ X.heap.size = W.heap.size ∧ (∀ k, k ≠ eb → X.heap[k]? = W.heap[k]?) ∧
      X.heap[eb]? = some (.cells (ec ⟨e.hd, e.h7, sumR R, sumR_len R, e.vote, e.ck, e.ct, e.cn, e.ca, e.cc, e.m⟩).toArray 30 (0, 0)) := by
  subst hn
  have hu := Try.underlying31
  have hs : (Try.prog.info? 5).map (·.size) = some 1 := by kernel_rfl
  have hK : sumK R = Nat.min R.length 32 := by unfold sumK; exact Nat.min_comm _ _
  by_cases h0 : sumK R = 0
  · refine ⟨W, ?_, ⟨rfl, rfl, rfl, Nat.le_refl _⟩, rfl, fun _ _ => rfl, ?_⟩
    · rw [h0]
      exact run_copy_none W _ _ _ 5 _ _ 32 32 R.length cap hu hs (by rw [← hK]; exact h0)
    · have : sumR R = e.sum := by rw [hz]; unfold sumR; rw [h0]; simp
      simp only [this]
      exact h.at_
  · rcases hr.below h.old with ⟨h1, h2⟩ | ⟨a, cap', h1, h2, h3⟩
    · rw [h2] at h0; exact absurd (by simp [sumK]) h0
    · injection h1 with h1 _ h4
      subst h1
      have hle : sumK R ≤ R.length := by unfold sumK; omega
      have hle32 : sumK R ≤ 32 := by unfold sumK; omega
      have htl : (R.take (sumK R)).length = sumK R := by rw [List.length_take]; omega
      have hbl : (Bs (R.take (sumK R))).length = sumK R := by rw [Bs_length]; exact htl
      have hth := there_ec h.at_ (o := 7) (n := sumK R) (by omega)
      have hrun := run_copy_cells (P := Try.prog) W 31 31 3 5 eb 7 32 32 a R.length cap (Bs (R.take (sumK R))) hu hs (by rw [hbl, hK])
        (fun j v hj => by
          have hjl : j < sumK R := by have := (List.getElem?_eq_some_iff.1 hj).1; omega
          rw [h3 j (by omega)]
          have e1 : (Bs (R.take (sumK R)))[j]? = some (.int .u8 ((R.getD j 0 : Nat) : Int)) := by
            have hjR : j < R.length := by omega
            simp [Bs, hjl, hjR, List.getElem?_take]
          rw [e1] at hj
          exact hj)
        (fun j hj => (hth j (by omega)).1) (fun j hj => (hth j (by omega)).2) (fun v hv => by simp only [Bs, List.mem_map] at hv; obtain ⟨x, -, rfl⟩ := hv; rfl)
      rw [hbl] at hrun
      refine ⟨W.setCells eb 7 (Bs (R.take (sumK R))), hrun, ?_, ?_, fun k hk => setCells_other hk _ _ _, ?_⟩
      · have hb := setCells_below (B := eb) (Nat.le_refl _) (Bs (R.take (sumK R))) 7 W
        exact ⟨hb.os, hb.tape, hb.output, hb.size⟩
      · have : ∀ (vs : List Value) (o : Nat) (V : World), (V.setCells eb o vs).heap.size = V.heap.size := fun vs => by
          induction vs with
          | nil => intro o V; rfl
          | cons v vs ih => intro o V; simp only [World.setCells]; rw [ih]; simp [World.setCell]
        exact this _ _ _
      · have hh := h.at_
        have hsplit : List.replicate 32 0 = List.replicate (sumK R) 0 ++ List.replicate (32 - sumK R) 0 := by rw [List.replicate_append_replicate, Nat.add_sub_cancel' hle32]
        have e1 : ec e = Is e.hd ++ (Bs (List.replicate (sumK R) 0) ++ (Bs (List.replicate (32 - sumK R) 0) ++ (vtc e.vote ++ callc e))) := by
          simp only [ec]
          rw [hz, hsplit, Bs_append]
          simp
        rw [e1] at hh
        have h5 := setCells_mid (Bs (R.take (sumK R))) (Is e.hd) (Bs (List.replicate (sumK R) 0)) _ W hh (by rw [hbl]; simp [Bs])
        have h7 : (Is e.hd).length = 7 := by simp [Is, e.h7]
        rw [h7] at h5
        rw [h5]
        simp only [ec, sumR, callc, Bs_append, List.append_assoc]
end Go.Proofs.Ytbndegkgpoemnaa
end

section
namespace Go.Proofs.Ytbndegkgpoemnaa
open Go.RowKit
set_option linter.unusedVariables false
set_option linter.unusedSimpArgs false

def e1R (l : List Nat) : Ex := ⟨(rdNs 7 l).map Int.ofNat, by simp [rdNs], List.replicate 32 0, by simp, ⟨0, false, 0, 0, 0, 0⟩, 0, 0, 0, none, 0, 0⟩
def e2R (l : List Nat) : Ex := ⟨(rdNs 7 l).map Int.ofNat, by simp [rdNs], sumR (lSum l), sumR_len _, ⟨0, false, 0, 0, 0, 0⟩, 0, 0, 0, none, 0, 0⟩
def e3R (l : List Nat) : Ex := ⟨(rdNs 7 l).map Int.ofNat, by simp [rdNs], sumR (lSum l), sumR_len _, ⟨((rdNs 5 (lVote l)).getD 0 0 : Nat), false, ((rdNs 5 (lVote l)).getD 4 0 : Nat), ((rdNs 5 (lVote l)).getD 1 0 : Nat), ((rdNs 5 (lVote l)).getD 2 0 : Nat), ((rdNs 5 (lVote l)).getD 3 0 : Nat)⟩, 0, 0, 0, none, 0, 0⟩
def e4R (l : List Nat) : Ex := ⟨(rdNs 7 l).map Int.ofNat, by simp [rdNs], sumR (lSum l), sumR_len _, voteR l, 0, 0, 0, none, 0, 0⟩
def e5R (l : List Nat) (y : C4) : Ex := ⟨(rdNs 7 l).map Int.ofNat, by simp [rdNs], sumR (lSum l), sumR_len _, voteR l, y.1, y.2.1, y.2.2.1, y.2.2.2.1, y.2.2.2.2.2, y.2.2.2.2.1⟩
def lvE (a : Addr) : Sem Value := loadVar 30 a
theorem lv_e (a : Addr) : loadVar 30 a = lvE a := rfl
theorem run_lvE {w : World} {b : Nat} {e : Ex} (h : w.heap[b]? = some (.cells (ec e).toArray 30 (0, 0))) : (lvE ⟨b, 0, none⟩).run Try.prog w = .ok (.agg (ec e).toArray) w := by
  have q := run_loadE h
  unfold loadE Instr.loadAt at q
  simpa [Instr.sureAddr, lvE] using q
theorem vptr {w : World} {b eb : Nat} (h : RowV w b [.pointer (some ⟨eb, 39, none⟩), .pointer (some ⟨eb, 39 + 3, none⟩), .pointer (some ⟨eb, 39 + 4, none⟩), .pointer (some ⟨eb, 39 + 5, none⟩), .pointer (some ⟨eb, 39 + 2, none⟩)]) : RowV w b (ptrs eb [39, 42, 43, 44, 41]) := h
theorem aye_set (l : List Nat) : (ec (e3R l)).toArray.setIfInBounds 40 (.bool (decide ((rdN (lAye l)).1 = 1))) = (ec (e4R l)).toArray := by
  apply Array.ext'
  have hl : (Is ((rdNs 7 l).map Int.ofNat) ++ Bs (sumR (lSum l))).length = 39 := by simp [Is, Bs, rdNs, sumR_len]
  have e1 : ec (e3R l) = (Is ((rdNs 7 l).map Int.ofNat) ++ Bs (sumR (lSum l))) ++ (vtc (e3R l).vote ++ callc (e3R l)) := by simp [ec, e3R]
  have e2 : ec (e4R l) = (Is ((rdNs 7 l).map Int.ofNat) ++ Bs (sumR (lSum l))) ++ (vtc (e4R l).vote ++ callc (e4R l)) := by simp [ec, e4R]
  simp only [Array.toList_setIfInBounds]
  rw [e1, e2, List.set_append_right _ _ (by omega), hl]
  rfl
theorem call_set (l : List Nat) (y : C4) {w : World} {eb : Nat} (h : w.heap[eb]? = some (.cells (ec (e4R l)).toArray 30 (0, 0))) : (w.setCells eb 45 (c4 y)).heap[eb]? = some (.cells (ec (e5R l y)).toArray 30 (0, 0)) := by
  have e1 : ec (e4R l) = (Is ((rdNs 7 l).map Int.ofNat) ++ (Bs (sumR (lSum l)) ++ vtc (voteR l))) ++ (callc (e4R l) ++ []) := by simp [ec, e4R]
  rw [e1] at h
  have h5 := setCells_mid (c4 y) _ (callc (e4R l)) [] w h rfl
  have hl : (Is ((rdNs 7 l).map Int.ofNat) ++ (Bs (sumR (lSum l)) ++ vtc (voteR l))).length = 45 := by simp [Is, Bs, rdNs, sumR_len, vtc]
  rw [hl] at h5
  rw [h5]
  simp only [ec, e5R, callc, c4, List.append_assoc, List.append_nil]
theorem setCells_keep (w : World) (b o : Nat) (vs : List Value) : (w.setCells b o vs).os = w.os ∧ (w.setCells b o vs).tape = w.tape ∧ (w.setCells b o vs).output = w.output ∧ (w.setCells b o vs).heap.size = w.heap.size := by
  induction vs generalizing o w with
  | nil => exact ⟨rfl, rfl, rfl, rfl⟩
  | cons v vs ih =>
    obtain ⟨h1, h2, h3, h4⟩ := ih (w.setCell ⟨b, o, none⟩ v) (o + 1)
    exact ⟨h1, h2, h3, by simp only [World.setCells]; rw [h4]; simp [World.setCell]⟩
/-- What is handed back. -/
theorem re_end {w w8 w9 W10 : World} {rs eb rb : Nat} {l R : List Nat} {y : C4} (hp : EPl w rs eb rb) (hB : Below w.heap.size w w8) (hrb : rb < w8.heap.size) (h9 : ESt w rs eb rb (e4R l) R w9) (hb9 : Below w8.heap.size w8 w9) (hz : RdZ (fun b => b < w8.heap.size) w9 4 (.agg (c4 y).toArray) (callR l)) (hW : W10 = w9.setCells eb 45 (c4 y)) :
    W10.heap[eb]? = some (.cells (ec (e5R l y)).toArray 30 (0, 0)) ∧ W10.heap[rs]? = some (.cells (ec exZero).toArray 30 (0, 0)) ∧
      (W10.setRow rs (ec (e5R l y)).toArray).heap[rs]? = some (.cells (ec (e5R l y)).toArray 30 (0, 0)) ∧ RdZ (fun b => b < w.heap.size) (W10.setRow rs (ec (e5R l y)).toArray) 4 (.agg (c4 y).toArray) (callR l) ∧ Below w.heap.size w (W10.setRow rs (ec (e5R l y)).toArray) := by
  obtain ⟨p1, p2, p3⟩ := hp
  obtain ⟨k1, k2, k3, k4⟩ := setCells_keep w9 eb 45 (c4 y)
  rw [← hW] at k1 k2 k3 k4
  have ho : ∀ x, x ≠ eb → W10.heap[x]? = w9.heap[x]? := fun x hx => by rw [hW]; exact setCells_other hx _ _ _
  have hat : W10.heap[eb]? = some (.cells (ec (e5R l y)).toArray 30 (0, 0)) := by rw [hW]; exact call_set l y h9.at_
  have hrs : W10.heap[rs]? = some (.cells (ec exZero).toArray 30 (0, 0)) := (ho rs (by omega)).trans h9.rs_
  have hs : (W10.setRow rs (ec (e5R l y)).toArray).heap.size = W10.heap.size := by simp
  have ho2 : ∀ x, x ≠ rs → (W10.setRow rs (ec (e5R l y)).toArray).heap[x]? = W10.heap[x]? := fun x hx => setRow_other _ _ _ _ hx
  have s1 := h9.old.size
  have s2 := hB.size
  refine ⟨hat, hrs, setRow_heap _ _ _ _ _ _ hrs, RdZ.keep (by omega) (fun x _ hx => by show x < w8.heap.size; have hx' : x < w.heap.size := hx; omega) (fun x _ hx => ?_) hz, ⟨?_, ?_, ?_, by omega, fun x hx => ?_⟩⟩
  · have hx' : ¬ x < w8.heap.size := hx
    exact (ho2 x (by omega)).trans (ho x (by omega))
  · exact (show (W10.setRow rs (ec (e5R l y)).toArray).os = W10.os from rfl).trans (k1.trans h9.old.os)
  · exact (show (W10.setRow rs (ec (e5R l y)).toArray).tape = W10.tape from rfl).trans (k2.trans h9.old.tape)
  · exact (show (W10.setRow rs (ec (e5R l y)).toArray).output = W10.output from rfl).trans (k3.trans h9.old.output)
  · exact (ho2 x (by omega)).trans ((ho x (by omega)).trans (h9.old.block x hx))
theorem results_cellE {P : Program} {fn : Func} {tmps : Array Value} {w : World} {a : Nat} {t : TypeId} {ad : Addr} {v : Value} (hf : fn.results = #[.cell a t]) (ha : tmps.getD a undef = .pointer (some ad)) (h : (loadVar t ad).run P w = .ok v w) : (results fn tmps).run P w = .ok v w := by
  unfold results
  rw [hf]
  have ha' : tmps[a]?.getD undef = .pointer (some ad) := by simpa using ha
  simp [Array.mapM_eq_mapM_toList, ha', asAddr, Sem.run_bind, h, Result.andThen]
abbrev ReOut (w : World) (rs eb : Nat) (l : List Nat) (y : C4) (w9 : World) : Prop :=
  (storeC (.pointer (some ⟨eb, 45, none⟩)) (.agg (c4 y).toArray)).run Try.prog w9 = .ok () (w9.setCells eb 45 (c4 y)) ∧
  (loadE (.pointer (some ⟨eb, 0, none⟩))).run Try.prog (w9.setCells eb 45 (c4 y)) = .ok (.agg (ec (e5R l y)).toArray) (w9.setCells eb 45 (c4 y)) ∧
  (storeE (.pointer (some ⟨rs, 0, none⟩)) (.agg (ec (e5R l y)).toArray)).run Try.prog (w9.setCells eb 45 (c4 y)) = .ok () ((w9.setCells eb 45 (c4 y)).setRow rs (ec (e5R l y)).toArray) ∧
  (lvE ⟨rs, 0, none⟩).run Try.prog ((w9.setCells eb 45 (c4 y)).setRow rs (ec (e5R l y)).toArray) = .ok (.agg (ec (e5R l y)).toArray) ((w9.setCells eb 45 (c4 y)).setRow rs (ec (e5R l y)).toArray) ∧
  RdZ (fun b => b < w.heap.size) ((w9.setCells eb 45 (c4 y)).setRow rs (ec (e5R l y)).toArray) 4 (.agg (c4 y).toArray) (callR l) ∧ Below w.heap.size w ((w9.setCells eb 45 (c4 y)).setRow rs (ec (e5R l y)).toArray)
theorem re_call {w w8 : World} {rs eb rb : Nat} {l R p : List Nat} {u : Value} (hp : EPl w rs eb rb) (h8 : ESt w rs eb rb (e4R l) R w8) (hrd : RdB w8 u p) (hby : ByL p) (hc : callR l = readC 3 p) :
    Calls Try.prog 53 #[u, .int .i64 3] w8 fun x w9 => ∃ y : C4, x = .returned (.agg (c4 y).toArray) ∧ ReOut w rs eb l y w9 := by
  refine (code_readCall 3 (by decide) u p w8 hrd hby).mono ?_
  rintro x w9 ⟨u9, rfl, hz, hb⟩
  obtain ⟨a9, c9, e9⟩ := hz.cells
  rw [← hc] at hz e9
  obtain ⟨y, hy⟩ : ∃ y : C4, y = ((callR l).k, (callR l).t, (callR l).n, a9, (callR l).kids.length, c9) := ⟨_, rfl⟩
  have e9' : u9 = .agg (c4 y).toArray := by rw [hy]; exact e9
  subst e9'
  have h9 := h8.below hb
  obtain ⟨v', r1, r2⟩ := h8.rdr
  obtain ⟨q1, q2, q3, q4, q5⟩ := re_end (y := y) hp h8.old r1.lt h9 hb hz rfl
  exact ⟨y, rfl, run_storeAt_mid w9 eb 45 28 (c4 y).toArray (there_ec h9.at_ (by simp [c4])) (by kernel_rfl) (by simp [c4, Value.oneCell']), run_loadE q1, run_storeE q2, run_lvE q3, q4, q5⟩
attribute [local go_sem ↓] load_e store_e alloc_e store_c lv_e
set_option maxHeartbeats 8000000 in
set_option maxRecDepth 100000 in
theorem code_readExt (v : Value) (l : List Nat) (w : World) (hr : RdB w v l) (hby : ByL l) :
    Calls Try.prog 34 #[v] w fun x w' => ∃ y, x = .returned (.agg (ec (e5R l y)).toArray) ∧ RdZ (fun b => b < w.heap.size) w' 4 (.agg (c4 y).toArray) (callR l) ∧ Below w.heap.size w w' := by
  obtain ⟨ao, cap, hv⟩ := hr.lenOf
  obtain ⟨m, hm⟩ : ∃ m, m = l.length := ⟨_, rfl⟩
  rw [← hm] at hv
  subst hv
  obtain ⟨W1, hW1⟩ : ∃ W1, W1 = ((w.alloc (.cells (ec exZero).toArray 30)).alloc (.cells (ec exZero).toArray 30)).alloc (.cells #[.slice ao m cap] 94) := ⟨_, rfl⟩
  obtain ⟨rs, hrs⟩ : ∃ b, b = w.heap.size := ⟨_, rfl⟩
  obtain ⟨eb, heb⟩ : ∃ b, b = w.heap.size + 1 := ⟨_, rfl⟩
  obtain ⟨rb, hrb⟩ : ∃ b, b = w.heap.size + 1 + 1 := ⟨_, rfl⟩
  have hE1 : ESt w rs eb rb exZero l W1 := by
    refine ⟨by rw [hW1]; exact (((Below.refl _ w).alloc (Nat.le_refl _) _).alloc (by simp) _).alloc (by simp; omega) _, ?_, ?_, .slice ao m cap, ?_, hr⟩
    · have h := World.alloc_heap_new w (.cells (ec exZero).toArray 30)
      rw [← hrs] at h
      rw [hW1]
      exact (Below.heap_alloc _ _ _ (by simp; omega)).trans ((Below.heap_alloc _ _ _ (by simp; omega)).trans h)
    · have h := World.alloc_heap_new (w.alloc (.cells (ec exZero).toArray 30)) (.cells (ec exZero).toArray 30)
      rw [World.size_alloc, ← heb] at h
      rw [hW1]
      exact (Below.heap_alloc _ _ _ (by simp; omega)).trans h
    · have h := World.alloc_heap_new ((w.alloc (.cells (ec exZero).toArray 30)).alloc (.cells (ec exZero).toArray 30)) (.cells #[.slice ao m cap] 94)
      rw [World.size_alloc, World.size_alloc, ← hW1, ← hrb] at h
      exact h
  have RA := run_allocE
  have HBY := Lib.hid hby
  have HPL := Lib.hid (EPl.mk hrs heb hrb)
  have HW := Lib.hid (And.intro hW1 (And.intro hrs (And.intro heb hrb)))
  have E1 := Lib.hid hE1
  clear hr hby hm hW1 hrs heb hrb hE1
  go_enter Try.func34, Try.ntmps34
  go_upto_region 3 with fail
  rw [← HW.out.1, ← HW.out.2.2.2, ← HW.out.2.2.1, ← HW.out.2.1]
  clear RA
  go_upto_region 4 with (first
    | (go_at_call 29; with_reducible refine (code_headFields eb 0 _).mono ?_; rintro x w2 ⟨bx, bb, rfl, hb, hcx, hrv, hx1, hx2⟩; have E2 := Lib.hid (E1.out.below hb); have F2 := Lib.hid (And.intro hcx (And.intro hrv (And.intro hx1 hx2))); clear hb hcx hrv hx1 hx2)
    | (go_at_call 61; refine (E2.out.fill HPL.out HBY.out [0, 1, 2, 3, 4, 5, 6] (by decide) (by decide) (by decide) rfl (e' := e1R l) (fill_head l) (p0 := 0) rfl F2.out.1 F2.out.2.1 F2.out.2.2.1 F2.out.2.2.2).mono ?_; rintro x w3 ⟨⟨u3, rfl⟩, he⟩; have E3 := Lib.hid he; clear he)
    | fail)
  have hR3 : restN [0, 1, 2, 3, 4, 5, 6].length l = lSum l := rfl
  rw [hR3] at E3
  have hb3 : ByL (lSum l) := HBY.out.restN 7
  obtain ⟨v3, r1, r2⟩ := E3.out.rdr
  obtain ⟨s, hs⟩ : ∃ s, s = sumK (lSum l) := ⟨_, rfl⟩
  have hsl : s ≤ (lSum l).length := by rw [hs]; unfold sumK; omega
  obtain ⟨ao3, cap3, hv3, hcap3, ht3⟩ := r2.tail hsl
  obtain ⟨n3, hn3⟩ : ∃ n, n = (lSum l).length := ⟨_, rfl⟩
  rw [← hn3] at hv3 hcap3 hsl
  subst hv3
  obtain ⟨X, hcp, hX1, hX2, hX3, hX4⟩ := (E3.out.below (bel_drew w3)).sum (e := e1R l) rfl hn3 r2
  rw [← hs] at hcp
  have hrX : RBx X rb (.slice ao3 n3 cap3) := (hX3 rb (by obtain ⟨p1, p2, p3⟩ := HPL.out; omega)).trans r1
  have c3 := r1.cell
  have cX := hrX.cell
  have fX := hrX.frozen 0
  have k1 : (0 : Int) ≤ (s : Int) := by omega
  have k2 : (s : Int) ≤ (n3 : Int) := by omega
  have k3 : (n3 : Int) ≤ (cap3 : Int) := by omega
  have k4 : (s : Int) ≤ (cap3 : Int) := by omega
  have hdl : ((lSum l).drop s).length = n3 - s := by rw [List.length_drop, hn3]
  rw [hdl] at ht3
  have hlv : (lSum l).drop s = lVote l := by rw [hs]; rfl
  rw [hlv] at ht3
  have hE : ∀ v', RdB w v' (lVote l) → ESt w rs eb rb (e2R l) (lVote l) (X.setCell ⟨rb, 0, none⟩ v') := fun v' hv' => by
    refine E3.out.turn HPL.out ⟨hX1.os, hX1.tape, hX1.output, by simp [World.setCell]; exact hX1.size⟩ (fun k hk n1 n2 => (heap_setCell_other _ _ _ _ (by show k ≠ rb; exact n1)).trans (hX3 k n2)) ((heap_setCell_other _ _ _ _ (by show eb ≠ rb; obtain ⟨p1, p2, p3⟩ := HPL.out; omega)).trans hX4) (hrX.set v') hv'
  have HE := Lib.hid hE
  have HCP := Lib.hid hcp
  clear E1 E2 F2 hb3 r1 r2 hs hsl hcap3 hn3 hX1 hX2 hX3 hX4 hrX hdl hlv hE hR3
  go_cut [17] (fun p wx => ESt w rs eb rb (e2R l) (lVote l) wx)
  case first =>
    rcases ht3 with ⟨hsc, hnil⟩ | ⟨hsc, a, rfl, htl⟩
    · have hsc' : (cap3 = s) = True := by simp [hsc]
      have hv4 : RdB w (.slice ao3 0 (cap3 - s)) (lVote l) := by rw [hnil]; exact rd_none rfl (fun _ => by omega)
      have hns : n3 - s = 0 := by omega
      have HV := Lib.hid hv4
      clear hnil hv4 hsc
      go_region_law (first
        | (refine step_copy_runI rfl _ _ 31 31 rfl _ _ (by simp [Act.eval, Act.put]) (by simp [Act.eval, Act.put]) HCP.out ?_)
        | fail)
      all_goals go_wp2_with fail
      all_goals go_meet
      all_goals exact HE.out _ HV.out
    · have hsc' : (cap3 = s) = False := by simp; omega
      have HV := Lib.hid htl
      clear htl hsc
      go_region_law (first
        | (refine step_copy_runI rfl _ _ 31 31 rfl _ _ (by simp [Act.eval, Act.put]) (by simp [Act.eval, Act.put]) HCP.out ?_)
        | fail)
      all_goals go_wp2_with fail
      all_goals go_meet
      all_goals exact HE.out _ HV.out
  case rest =>
  have E4 := Lib.hid hcut
  have B4 := Lib.hid (show ByL (lVote l) from (HBY.out.restN 7).drop _)
  clear hcut HE HCP ht3 c3 cX fX k1 k2 k3 k4 E3
  go_upto_region 7 with (first
    | (go_at_call 30; with_reducible refine (code_voteFields eb 39 _).mono ?_; rintro x w5 ⟨bx5, bb5, rfl, hb, hcx, hrv, hx1, hx2⟩; have E5 := Lib.hid (E4.out.below hb); have hrv2 := vptr hrv; have F5 := Lib.hid (And.intro hcx (And.intro hrv2 (And.intro hx1 hx2))); clear hrv2; clear hb hcx hrv hx1 hx2)
    | (go_at_call 61; refine (E5.out.fill HPL.out B4.out [39, 42, 43, 44, 41] (by decide) (by decide) (by decide) rfl (e' := e3R l) (fill_vote (lVote l) _ _ _ _) (p0 := 39) rfl F5.out.1 F5.out.2.1 F5.out.2.2.1 F5.out.2.2.2).mono ?_; rintro x w6 ⟨⟨u6, rfl⟩, he⟩; have E6 := Lib.hid (show ESt w rs eb rb (e3R l) (lAye l) w6 from he); clear he)
    | (go_at_call 62; refine (E6.out.number HPL.out (B4.out.restN 5)).mono ?_; rintro x w7 ⟨rfl, he⟩; have E7 := Lib.hid (show ESt w rs eb rb (e3R l) (lCall l) w7 from he); have c40 := (ExAt.mk he.old he.at_).vcell 1 _ rfl; have f40 : w7.frozen? ⟨eb, 40, none⟩ = false := frozen_of_row _ _ _ _ _ he.at_; clear he)
    | fail)
  have hbq : ((((rdN (lAye l)).1 : Nat) : Int) == 1) = decide ((rdN (lAye l)).1 = 1) := by
    by_cases q : (rdN (lAye l)).1 = 1
    · rw [q]; rfl
    · rw [decide_eq_false q, beq_eq_false_iff_ne]; omega
  rw [hbq]
  obtain ⟨W7, hW7⟩ : ∃ W7, W7 = w7.setCell ⟨eb, 40, none⟩ (.bool (decide ((rdN (lAye l)).1 = 1))) := ⟨_, rfl⟩
  rw [← hW7]
  have hE7 : ESt w rs eb rb (e4R l) (lCall l) W7 := by
    obtain ⟨v', r1, r2⟩ := E7.out.rdr
    rw [hW7]
    refine E7.out.turn HPL.out ⟨rfl, rfl, rfl, by simp [World.setCell]⟩ (fun k hk n1 n2 => heap_setCell_other _ _ _ _ (by show k ≠ eb; exact n2)) ?_ ((heap_setCell_other _ _ _ _ (by show rb ≠ eb; obtain ⟨p1, p2, p3⟩ := HPL.out; omega)).trans r1) r2
    rw [← aye_set]
    exact heap_setCell_same _ _ _ _ _ _ E7.out.at_
  have E8 := Lib.hid hE7
  have B8 := Lib.hid (show ByL (lCall l) from (B4.out.restN 5).rdN)
  clear hbq hW7 hE7 c40 f40 E4 E5 E6 E7 F5 B4
  go_upto_region 8 with (first
    | (go_at_call 63; refine (E8.out.row HPL.out B8.out).mono ?_; rintro x w8 ⟨u8, rfl, hrd, he⟩; have E9 := Lib.hid he; have R9 := Lib.hid hrd; clear he hrd)
    | (go_at_call 53; with_reducible refine (re_call HPL.out E9.out R9.out B8.out.row rfl).mono ?_; rintro x w9 ⟨y, rfl, q1, q2, q3, q4, q5⟩; have EN := Lib.hid q5; clear q5)
    | fail)
  go_wp2_with fail
  exact bodyPost_ret (v := .agg (ec (e5R l y)).toArray) (results_cellE Try.results34 rfl q4) rfl ⟨y, rfl, EN.out⟩
end Go.Proofs.Ytbndegkgpoemnaa
end

section
namespace Go.Proofs.Ytbndegkgpoemnaa
open Go.RowKit
set_option linter.unusedVariables false
set_option linter.unusedSimpArgs false

/-- An extrinsic's numbers are small. -/
structure RngE (e : Ex) (c : Cl) : Prop where
  hd : ∀ n ∈ e.hd, 0 ≤ n ∧ n ≤ 1073741824
  vt : ∀ n ∈ vnums e.vote, 0 ≤ n ∧ n ≤ 1073741824
  cl : (callB e c).length ≤ 100000
theorem layE_parts {e : Ex} {c : Cl} (h : RngE e c) (t : List Nat) :
    (rdNs 7 (layE e c ++ t)).map Int.ofNat = e.hd ∧ sumR (lSum (layE e c ++ t)) = e.sum ∧ (rdNs 5 (lVote (layE e c ++ t))).map Int.ofNat = vnums e.vote ∧ (rdN (lAye (layE e c ++ t))).1 = (ayeN e.vote).toNat ∧ (rdR (lCall (layE e c ++ t))).1 = callB e c := by
  have e0 : layE e c ++ t = numsL e.hd ++ (e.sum ++ (numsL (vnums e.vote) ++ (numsL [ayeN e.vote] ++ (rowL (callB e c) ++ t)))) := by simp [layE, List.append_assoc]
  rw [e0]
  obtain ⟨a1, a2⟩ := rdNs_nums e.hd (e.sum ++ (numsL (vnums e.vote) ++ (numsL [ayeN e.vote] ++ (rowL (callB e c) ++ t)))) h.hd
  rw [e.h7] at a1 a2
  obtain ⟨b1, b2⟩ := sumR_full (t := numsL (vnums e.vote) ++ (numsL [ayeN e.vote] ++ (rowL (callB e c) ++ t))) e.h32
  obtain ⟨c1, c2⟩ := rdNs_nums (vnums e.vote) (numsL [ayeN e.vote] ++ (rowL (callB e c) ++ t)) h.vt
  have h5 : (vnums e.vote).length = 5 := rfl
  rw [h5] at c1 c2
  have hay : 0 ≤ ayeN e.vote ∧ ayeN e.vote ≤ 1073741824 := by unfold ayeN; split <;> omega
  obtain ⟨k1, k2⟩ := held_id hay.1 hay.2
  have d1 : rdN (numsL [ayeN e.vote] ++ (rowL (callB e c) ++ t)) = ((ayeN e.vote).toNat, rowL (callB e c) ++ t) := by
    rw [numsL, numsL, List.append_nil, k1, rdN_num (by omega)]
  have f1 := rdR_row (p := callB e c) (by have := h.cl; omega) t
  refine ⟨a1, ?_, ?_, ?_, ?_⟩
  · unfold lSum; rw [a2]; exact b1
  · unfold lVote lSum; rw [a2, b2]; exact c1
  · unfold lAye lVote lSum; rw [a2, b2, c2, d1]
  · unfold lCall lAye lVote lSum; rw [a2, b2, c2, d1, f1]
theorem layE_one {e1 e2 : Ex} {c1 c2 : Cl} (h1 : RngE e1 c1) (h2 : RngE e2 c2) {t1 t2 : List Nat} (h : layE e1 c1 ++ t1 = layE e2 c2 ++ t2) : layE e1 c1 = layE e2 c2 ∧ t1 = t2 := by
  obtain ⟨a1, a2, a3, a4, a5⟩ := layE_parts h1 t1
  obtain ⟨b1, b2, b3, b4, b5⟩ := layE_parts h2 t2
  rw [h] at a1 a2 a3 a4 a5
  have e1' : layE e1 c1 = layE e2 c2 := by
    unfold layE
    have q4 : ayeN e1.vote = ayeN e2.vote := by
      have : (ayeN e1.vote).toNat = (ayeN e2.vote).toNat := a4.symm.trans b4
      unfold ayeN at this ⊢
      split at this <;> split at this <;> simp_all
    rw [← a1, b1, ← a2, b2, ← a3, b3, q4, ← a5, b5]
  refine ⟨e1', ?_⟩
  rw [e1'] at h
  exact List.append_cancel_left h
end Go.Proofs.Ytbndegkgpoemnaa
end

section
namespace Go.Proofs.Ytbndegkgpoemnaa
open Go.RowKit
set_option linter.unusedVariables false
set_option linter.unusedSimpArgs false

set_option maxHeartbeats 4000000 in
set_option maxRecDepth 100000 in
theorem rng_aux (k who to' n r tr lv : Int) (e : Ex) (cOk vOk : Bool) (h : isX k who to' n r tr lv e cOk vOk = true) :
    ((0 ≤ k ∧ k ≤ 11) ∧ (0 ≤ who ∧ who ≤ 9)) ∧ (0 ≤ to' ∧ to' ≤ 9) ∧ (0 ≤ n ∧ n ≤ 1073741824) ∧ (0 ≤ r ∧ r ≤ 11) ∧ (0 ≤ tr ∧ tr ≤ 3) ∧ (0 ≤ lv ∧ lv ≤ 6) ∧ (vOk = true ∨ (e.vote.kind = 0 ∧ e.vote.a = 0 ∧ e.vote.n = 0 ∧ e.vote.s = 0 ∧ e.vote.level = 0)) ∧ (cOk = true ∨ e.ck = 0) := by
  by_cases hk : 1 ≤ k ∧ k ≤ 11
  · obtain ⟨hd, h7, sm, h32, ⟨v1, v2, v3, v4, v5, v6⟩, ck, ct, cn, ca, cc, m⟩ := e
    have hk2 : k = 1 ∨ k = 2 ∨ k = 3 ∨ k = 4 ∨ k = 5 ∨ k = 6 ∨ k = 7 ∨ k = 8 ∨ k = 9 ∨ k = 10 ∨ k = 11 := by omega
    obtain ⟨Z, hZ⟩ : ∃ Z, Z = List.replicate 32 0 := ⟨_, rfl⟩
    unfold isX at h
    rcases hk2 with rfl | rfl | rfl | rfl | rfl | rfl | rfl | rfl | rfl | rfl | rfl
    all_goals
      simp only [fieldsOk, wiped, exWith, extEq, exZero, voteEq, ← hZ] at h
      simp at h ⊢
      cases vOk <;> cases cOk <;> simp at h ⊢ <;> omega
  · unfold isX at h
    rw [decide_eq_false hk] at h
    simp at h
theorem voteB_rng {k : Int} {aye : Bool} {l a n s : Int} (h : voteB k aye l a n s = true) : (0 ≤ k ∧ k ≤ 3) ∧ (0 ≤ a ∧ a ≤ 1073741824) ∧ (0 ≤ n ∧ n ≤ 1073741824) ∧ (0 ≤ s ∧ s ≤ 1073741824) ∧ (0 ≤ l ∧ l ≤ 6) := by
  unfold voteB at h
  simp only [Bool.and_eq_true] at h
  obtain ⟨⟨⟨⟨h1, h2⟩, h3⟩, h4⟩, h5⟩ := h
  have a1 := withinB_out h2
  have a2 := withinB_out h3
  have a3 := withinB_out h4
  unfold shapedB at h1
  split at h1
  · simp only [Bool.and_eq_true] at h1
    have := withinB_out h1.1.1
    exact ⟨by omega, a1, a2, a3, this⟩
  · split at h1
    · simp only [Bool.and_eq_true, beq_iff_eq] at h1
      exact ⟨by omega, a1, a2, a3, by omega⟩
    · split at h1
      · simp only [Bool.and_eq_true, beq_iff_eq] at h1
        exact ⟨by omega, a1, a2, a3, by omega⟩
      · cases h1
/-- May an extrinsic be, with this call? -/
def okE (e : Ex) (c : Cl) : Bool := isX (e.hd.getD 0 0) (e.hd.getD 1 0) (e.hd.getD 2 0) (e.hd.getD 3 0) (e.hd.getD 4 0) (e.hd.getD 5 0) (e.hd.getD 6 0) e (okC 3 c) (voteB e.vote.kind e.vote.aye e.vote.level e.vote.a e.vote.n e.vote.s)
theorem hd_getD (e : Ex) : e.hd = [e.hd.getD 0 0, e.hd.getD 1 0, e.hd.getD 2 0, e.hd.getD 3 0, e.hd.getD 4 0, e.hd.getD 5 0, e.hd.getD 6 0] := by
  have h := e.h7
  match e.hd, h with
  | [a, b, c, d, f, g, i], _ => rfl
theorem okE_rng {e : Ex} {c : Cl} (h : okE e c = true) : RngE e c := by
  obtain ⟨⟨h0, h1⟩, h2, h3, h4, h5, h6, h7, h8⟩ := rng_aux _ _ _ _ _ _ _ _ _ _ h
  refine ⟨?_, ?_, ?_⟩
  · rw [hd_getD e]
    intro x hx
    simp only [List.mem_cons, List.not_mem_nil, or_false] at hx
    rcases hx with rfl | rfl | rfl | rfl | rfl | rfl | rfl <;> omega
  · intro x hx
    simp only [vnums, List.mem_cons, List.not_mem_nil, or_false] at hx
    rcases h7 with hv | ⟨z1, z2, z3, z4, z5⟩
    · obtain ⟨v1, v2, v3, v4, v5⟩ := voteB_rng hv
      rcases hx with rfl | rfl | rfl | rfl | rfl <;> omega
    · rcases hx with rfl | rfl | rfl | rfl | rfl <;> omega
  · unfold callB
    split
    · simp
    · rename_i hne
      rcases h8 with hc | hc
      · exact layT_bound (Nat.le_refl 3) hc
      · exact absurd hc hne
theorem code_IsExtE (e : Ex) (c : Cl) (d : Nat) (w : World) (hrd : RdC w d (.agg #[.int .i64 e.ck, .int .i64 e.ct, .int .i64 e.cn, .slice e.ca e.m e.cc]) c) :
    Calls Try.prog 16 #[.agg (ec e).toArray] w fun x w' => x = .returned (.bool (okE e c)) ∧ Below w.heap.size w w' :=
  code_IsExt _ _ _ _ _ _ _ e (hd_getD e) c d w hrd
theorem ref_IsExtE (e : Ex) (c : Cl) (d : Nat) (w : World) (hrd : RdC w d (.agg #[.int .i64 e.ck, .int .i64 e.ct, .int .i64 e.cn, .slice e.ca e.m e.cc]) c) :
    Calls Try.prog 17 #[.agg (ec e).toArray] w fun x w' => x = .returned (.bool (okE e c)) ∧ Below w.heap.size w w' :=
  ref_IsExt _ _ _ _ _ _ _ e (hd_getD e) c d w hrd
theorem code_EncodeExt (e : Ex) (c : Cl) (d : Nat) (w : World) (hrd : RdC w d (.agg #[.int .i64 e.ck, .int .i64 e.ct, .int .i64 e.cn, .slice e.ca e.m e.cc]) c) :
    Calls Try.prog 11 #[.agg (ec e).toArray] w fun x w' => ∃ u, x = .returned (.tuple #[u, .int .i64 (if okE e c then 0 else 1)]) ∧ OwnB w.heap.size u (Bs (if okE e c then layE e c else [])) w' ∧ Below w.heap.size w w' :=
  code_EncodeExtH e c d (okE e c) w hrd (fun W hb => code_IsExtE e c d W (hrd.below hb)) (fun hok hck => by
    have := (okE_rng hok).cl
    unfold callB at this
    rw [if_neg hck] at this
    exact this)
end Go.Proofs.Ytbndegkgpoemnaa
end

section
namespace Go.Proofs.Ytbndegkgpoemnaa
open Go.RowKit
set_option linter.unusedVariables false
set_option linter.unusedSimpArgs false

theorem ByL.lt {l : List Nat} (h : ByL l) : ∀ c ∈ l, c < 256 := h.1
theorem bytes_Equal (v u : Value) (a b : List Nat) (w : World) (ha : RdB w v a) (hb : RdB w u b) (a256 : ∀ x ∈ a, x < 256) (b256 : ∀ x ∈ b, x < 256) :
    Calls Try.prog 35 #[v, u] w fun x w' => x = .returned (.bool (decide (a = b))) ∧ Below w.heap.size w w' := by
  have h1 := run_str ha a256
  have h2 := run_str hb b256
  by_cases h : a = b
  · have hst : ((strN a).toList == (strN b).toList) = true := by rw [h]; simp
    rw [decide_eq_true h]
    clear h
    go_enter Try.func35, Try.ntmps35
    go_wp2_with fail
    go_ret
    exact ⟨by rfl, Below.refl _ _⟩
  · have hst : ((strN a).toList == (strN b).toList) = false := by rw [beq_eq_false_iff_ne]; exact fun e => h ((strN_eq a256 b256).1 e)
    rw [decide_eq_false h]
    clear h
    go_enter Try.func35, Try.ntmps35
    go_wp2_with fail
    go_ret
    exact ⟨by rfl, Below.refl _ _⟩
theorem layE_lt {e : Ex} {c : Cl} (h : ∀ x ∈ e.sum, x < 256) : ∀ x ∈ layE e c, x < 256 := by
  intro x hx
  unfold layE rowL at hx
  simp only [List.mem_append] at hx
  rcases hx with (((hx | hx) | hx) | hx) | hx | hx
  · exact numsL_lt _ _ hx
  · exact h x hx
  · exact numsL_lt _ _ hx
  · exact numsL_lt _ _ hx
  · exact numL_lt _ _ hx
  · unfold callB at hx
    split at hx
    · simp at hx
    · exact layT_lt c _ hx
theorem sumR_lt {l : List Nat} (h : ∀ x ∈ l, x < 256) : ∀ x ∈ sumR l, x < 256 := by
  intro x hx
  unfold sumR at hx
  rw [List.mem_append] at hx
  rcases hx with hx | hx
  · exact h x (List.mem_of_mem_take hx)
  · have := (List.mem_replicate.1 hx).2; omega
theorem results_cellT {P : Program} {fn : Func} {tmps : Array Value} {w : World} {a b : Nat} {t : TypeId} {ad : Addr} {v u : Value} (hf : fn.results = #[.cell a t, .tmp b]) (ha : tmps.getD a undef = .pointer (some ad)) (hu : tmps.getD b undef = u) (h : (loadVar t ad).run P w = .ok v w) : (results fn tmps).run P w = .ok (.tuple #[v, u]) w := by
  unfold results
  rw [hf]
  have ha' : tmps[a]?.getD undef = .pointer (some ad) := by simpa using ha
  have hu' : tmps[b]?.getD undef = u := by simpa using hu
  simp [Array.mapM_eq_mapM_toList, ha', hu', asAddr, Sem.run_bind, h, Result.andThen]
/-- What is read lies in a place of its own. -/
structure DSt (w : World) (rs eb : Nat) (e : Ex) (W : World) : Prop where
  old : Below w.heap.size w W
  rs_ : W.heap[rs]? = some (.cells (ec exZero).toArray 30 (0, 0))
  eb_ : W.heap[eb]? = some (.cells (ec e).toArray 30 (0, 0))
theorem DSt.below {w : World} {rs eb : Nat} {e : Ex} {W W' : World} (h : DSt w rs eb e W) (hb : Below W.heap.size W W') : DSt w rs eb e W' :=
  ⟨h.old.trans (hb.mono h.old.size), (hb.block rs (Array.getElem?_eq_some_iff.1 h.rs_).1).trans h.rs_, (hb.block eb (Array.getElem?_eq_some_iff.1 h.eb_).1).trans h.eb_⟩
theorem DSt.fin {w : World} {rs eb : Nat} {e : Ex} {W : World} (h : DSt w rs eb e W) (hrs : rs = w.heap.size) (x : Ex) :
    (storeE (.pointer (some ⟨rs, 0, none⟩)) (.agg (ec x).toArray)).run Try.prog W = .ok () (W.setRow rs (ec x).toArray) ∧ (lvE ⟨rs, 0, none⟩).run Try.prog (W.setRow rs (ec x).toArray) = .ok (.agg (ec x).toArray) (W.setRow rs (ec x).toArray) ∧ Below w.heap.size w (W.setRow rs (ec x).toArray) ∧ W.heap.size ≤ (W.setRow rs (ec x).toArray).heap.size ∧ ∀ k, k ≠ rs → (W.setRow rs (ec x).toArray).heap[k]? = W.heap[k]? := by
  have hs : (W.setRow rs (ec x).toArray).heap.size = W.heap.size := by simp
  have ho : ∀ k, k ≠ rs → (W.setRow rs (ec x).toArray).heap[k]? = W.heap[k]? := fun k hk => setRow_other _ _ _ _ hk
  have := h.old.size
  exact ⟨run_storeE h.rs_, run_lvE (setRow_heap _ _ _ _ _ _ h.rs_), h.old.trans ⟨rfl, rfl, rfl, by omega, fun k hk => ho k (by omega)⟩, by omega, ho⟩
/-- The cells of a call are its own. -/
def CY (y : C4) (c : Cl) : Prop := y.1 = c.k ∧ y.2.1 = c.t ∧ y.2.2.1 = c.n ∧ y.2.2.2.2.1 = c.kids.length
theorem cy_of {Z : Nat → Prop} {w : World} {d : Nat} {y : C4} {c : Cl} (h : RdZ Z w d (.agg (c4 y).toArray) c) : CY y c := by
  obtain ⟨ao, cap, e⟩ := h.cells
  simp only [c4, Value.agg.injEq] at e
  have e' := congrArg Array.toList e
  simp only [List.cons.injEq, Value.int.injEq, Value.slice.injEq, true_and, and_true] at e'
  exact ⟨e'.1, e'.2.1, e'.2.2.1, e'.2.2.2.2.1⟩
abbrev DeOut (w : World) (l : List Nat) (x : Ending) (w' : World) : Prop := ∃ y, CY y (callR l) ∧ ((x = .returned (.tuple #[.agg (ec (e5R l y)).toArray, .int .i64 0]) ∧ (okE (e5R l y) (callR l) = true ∧ layE (e5R l y) (callR l) = l) ∧ RdZ (fun b => b < w.heap.size) w' 4 (.agg (c4 y).toArray) (callR l) ∧ Below w.heap.size w w') ∨
  (x = .returned (.tuple #[.agg (ec exZero).toArray, .int .i64 2]) ∧ ¬ (okE (e5R l y) (callR l) = true ∧ layE (e5R l y) (callR l) = l) ∧ Below w.heap.size w w'))
attribute [local go_sem ↓] load_e store_e alloc_e build_e lv_e
set_option maxHeartbeats 8000000 in
set_option maxRecDepth 100000 in
theorem code_DecodeExt (v : Value) (l : List Nat) (w : World) (hr : RdB w v l) (hby : ByL l) : Calls Try.prog 13 #[v] w (DeOut w l) := by
  obtain ⟨ao, cap, hv⟩ := hr.lenOf
  obtain ⟨m, hm⟩ : ∃ m, m = l.length := ⟨_, rfl⟩
  rw [← hm] at hv
  subst hv
  obtain ⟨W1, hW1⟩ : ∃ W1, W1 = w.alloc (.cells (ec exZero).toArray 30) := ⟨_, rfl⟩
  obtain ⟨rs, hrs⟩ : ∃ b, b = w.heap.size := ⟨_, rfl⟩
  have hb1 : Below w.heap.size w W1 := by rw [hW1]; exact bel_alloc _ _
  have hat : W1.heap[rs]? = some (.cells (ec exZero).toArray 30 (0, 0)) := by rw [hW1, hrs]; exact World.alloc_heap_new _ _
  have RA := run_allocE
  have BE := run_buildE
  have HW := Lib.hid (And.intro hW1 hrs)
  have H1 := Lib.hid (And.intro hb1 hat)
  have HR := Lib.hid hr
  have HBY := Lib.hid hby
  clear hr hby hm hW1 hrs hb1 hat
  go_enter Try.func13, Try.ntmps13
  go_upto_region 1 with fail
  rw [← HW.out.1, ← HW.out.2]
  go_upto_region 2 with (first
    | (go_at_call 34; with_reducible refine (code_readExt _ l _ (HR.out.below H1.out.1) HBY.out).mono ?_; rintro x w2 ⟨y, rfl, hz, hb⟩; have Z2 := Lib.hid hz; have B2 := Lib.hid hb; have SE := run_storeE (e := e5R l y) (World.alloc_heap_new w2 (.cells (ec exZero).toArray 30)); clear hz hb)
    | fail)
  clear RA SE
  obtain ⟨eb, heb⟩ : ∃ b, b = w2.heap.size := ⟨_, rfl⟩
  obtain ⟨Wd, hWd⟩ : ∃ Wd, Wd = (w2.alloc (.cells (ec exZero).toArray 30)).setRow w2.heap.size (ec (e5R l y)).toArray := ⟨_, rfl⟩
  have hnew := World.alloc_heap_new w2 (.cells (ec exZero).toArray 30)
  have hbd : Below w2.heap.size w2 Wd := by rw [hWd]; exact (bel_alloc w2 _).trans ⟨rfl, rfl, rfl, by simp, fun k hk => setRow_other _ _ _ _ (by omega)⟩
  have hatd : Wd.heap[eb]? = some (.cells (ec (e5R l y)).toArray 30 (0, 0)) := by rw [hWd, heb]; exact setRow_heap _ _ _ _ _ _ hnew
  rw [← hWd, ← heb]
  have hb2 := B2.out
  have h1 := H1.out.1
  have hrl : rs < W1.heap.size := (Array.getElem?_eq_some_iff.1 H1.out.2).1
  have hD : DSt w rs eb (e5R l y) Wd := ⟨(h1.trans (hb2.mono h1.size)).trans (hbd.mono (Nat.le_trans h1.size hb2.size)), (hbd.block rs (by have := hb2.size; omega)).trans ((hb2.block rs hrl).trans H1.out.2), hatd⟩
  have hZ : RdZ (fun b => b < W1.heap.size) Wd 4 (.agg (c4 y).toArray) (callR l) := RdZ.keep hbd.size (fun _ _ z => z) (fun x hx _ => hbd.block x hx) Z2.out
  have hlt : ∀ x ∈ layE (e5R l y) (callR l), x < 256 := layE_lt (sumR_lt (HBY.out.restN 7).1)
  have hrsW := HW.out.2
  have D1 := Lib.hid hD
  have Z1 := Lib.hid hZ
  have CYH := Lib.hid (cy_of hZ)
  have HRL := Lib.hid (And.intro hrl hrsW)
  have LT := Lib.hid hlt
  have LE := run_loadE hD.eb_
  obtain ⟨cx, hcx⟩ : ∃ c, c = callR l := ⟨_, rfl⟩
  have HCX := Lib.hid hcx
  rw [← hcx] at Z1 LT
  have hen := code_EncodeExt (e5R l y) cx 4 Wd Z1.out.toC
  obtain ⟨ok, hok⟩ : ∃ q, q = okE (e5R l y) cx := ⟨_, rfl⟩
  rw [← hok] at hen
  have EN := Lib.hid hen
  have HOK := Lib.hid hok
  clear hnew hbd hatd hb2 h1 hrl hD hZ hlt hrsW hcx hen hok hWd heb Z2 B2
  cases ok
  case false =>
    go_wp2_with (first
      | (go_at_call 11; with_reducible refine EN.out.mono ?_; rintro x w3 ⟨u, rfl, ho, hb⟩; have D3 := Lib.hid (D1.out.below hb); obtain ⟨q1, q2, q3, q4, q5⟩ := D3.out.fin HRL.out.2 exZero; have EN3 := Lib.hid q3; clear ho hb q3 q4 q5)
      | fail)
    exact bodyPost_ret (v := .tuple #[.agg (ec exZero).toArray, .int .i64 2]) (results_cellT Try.results13 rfl rfl q2) rfl ⟨y, CYH.out, Or.inr ⟨rfl, (by rw [← HCX.out, ← HOK.out]; simp), EN3.out⟩⟩
  case true =>
    obtain ⟨q, hq⟩ : ∃ q, q = decide (layE (e5R l y) cx = l) := ⟨_, rfl⟩
    have HQ := Lib.hid hq
    clear hq
    cases q
    case false =>
      go_wp2_with (first
        | (go_at_call 11; with_reducible refine EN.out.mono ?_; rintro x w3 ⟨u, rfl, ho, hb⟩; have D3 := Lib.hid (D1.out.below hb); rw [if_pos rfl] at ho; have O3 := Lib.hid ho.reads; clear ho hb)
        | (go_at_call 35; with_reducible refine (bytes_Equal _ _ _ l _ O3.out (HR.out.below D3.out.old) LT.out HBY.out.lt).mono ?_; rw [← HQ.out]; rintro x w4 ⟨rfl, hb⟩; have D4 := Lib.hid (D3.out.below hb); obtain ⟨q1, q2, q3, q4, q5⟩ := D4.out.fin HRL.out.2 exZero; have EN3 := Lib.hid q3; clear hb q3 q4 q5)
        | fail)
      exact bodyPost_ret (v := .tuple #[.agg (ec exZero).toArray, .int .i64 2]) (results_cellT Try.results13 rfl rfl q2) rfl ⟨y, CYH.out, Or.inr ⟨rfl, (by rw [← HCX.out]; exact fun h => (by have h2 := HQ.out; rw [decide_eq_true h.2] at h2; cases h2)), EN3.out⟩⟩
    case true =>
      go_wp2_with (first
        | (go_at_call 11; with_reducible refine EN.out.mono ?_; rintro x w3 ⟨u, rfl, ho, hb⟩; have D3 := Lib.hid (D1.out.below hb); have Z3 := Lib.hid (RdZ.keep hb.size (fun _ _ z => z) (fun x hx _ => hb.block x hx) Z1.out); rw [if_pos rfl] at ho; have O3 := Lib.hid ho.reads; clear ho hb)
        | (go_at_call 35; with_reducible refine (bytes_Equal _ _ _ l _ O3.out (HR.out.below D3.out.old) LT.out HBY.out.lt).mono ?_; rw [← HQ.out]; rintro x w4 ⟨rfl, hb⟩; have D4 := Lib.hid (D3.out.below hb); have Z4 := Lib.hid (RdZ.keep hb.size (fun _ _ z => z) (fun x hx _ => hb.block x hx) Z3.out); have LE4 := run_loadE D4.out.eb_; obtain ⟨q1, q2, q3, q4, q5⟩ := D4.out.fin HRL.out.2 (e5R l y); have EN3 := Lib.hid q3; have KK := Lib.hid (And.intro q4 q5); clear hb q3 q4 q5)
        | fail)
      exact bodyPost_ret (v := .tuple #[.agg (ec (e5R l y)).toArray, .int .i64 0]) (results_cellT Try.results13 rfl rfl q2) rfl ⟨y, CYH.out, Or.inl ⟨rfl, by rw [← HCX.out]; exact ⟨HOK.out.symm, of_decide_eq_true HQ.out.symm⟩, by rw [← HCX.out]; exact RdZ.keep KK.out.1 (fun x _ hx => by have h1 : x < w.heap.size := hx; have := HRL.out; show x < W1.heap.size; omega) (fun x _ hx => KK.out.2 x (fun e => hx (by have := HRL.out.1; show x < W1.heap.size; omega))) Z4.out, EN3.out⟩⟩
theorem dec_none (v : Value) (l : List Nat) (w : World) (hr : RdB w v l) (hby : ByL l) (hno : ∀ x cx, okE x cx = true → layE x cx ≠ l) : Calls Try.prog 13 #[v] w fun x w' => x = .returned (.tuple #[.agg (ec exZero).toArray, .int .i64 2]) ∧ Below w.heap.size w w' := by
  refine (code_DecodeExt v l w hr hby).mono ?_
  rintro x w' ⟨y, -, h | h⟩
  · exact absurd h.2.1.2 (hno _ _ h.2.1.1)
  · exact ⟨h.1, h.2.2⟩
theorem cut_none {e : Ex} {c : Cl} (h : okE e c = true) {k : Nat} (hk : k < (layE e c).length) : ∀ x cx, okE x cx = true → layE x cx ≠ (layE e c).take k := by
  intro x cx hx he
  have h1 : layE x cx ++ (layE e c).drop k = layE e c ++ [] := by rw [he, List.take_append_drop, List.append_nil]
  have h2 := (layE_one (okE_rng hx) (okE_rng h) h1).2
  have h3 := congrArg List.length h2
  rw [List.length_drop] at h3
  simp at h3
  omega
theorem more_none {e : Ex} {c : Cl} (h : okE e c = true) {m : List Nat} (hm : m ≠ []) : ∀ x cx, okE x cx = true → layE x cx ≠ layE e c ++ m := by
  intro x cx hx he
  have h1 : layE x cx ++ [] = layE e c ++ m := by rw [List.append_nil, he]
  exact hm (layE_one (okE_rng hx) (okE_rng h) h1).2.symm
theorem layE_len {e : Ex} {c : Cl} (h : okE e c = true) : 0 < (layE e c).length ∧ (layE e c).length ≤ 200000 := by
  have n1 := numsL_len e.hd
  have n2 := numsL_len (vnums e.vote)
  have n3 := numsL_len [ayeN e.vote]
  have n4 := e.h7
  have n5 := e.h32
  have n6 := (okE_rng h).cl
  have n7 := rowL_length (callB e c)
  have h5 : (vnums e.vote).length = 5 := rfl
  unfold layE
  simp only [List.length_append, List.length_singleton] at *
  omega
end Go.Proofs.Ytbndegkgpoemnaa
end

section
namespace Go.Proofs.Ytbndegkgpoemnaa
open Go.RowKit
set_option linter.unusedVariables false
set_option linter.unusedSimpArgs false

theorem run_loadCG {w : World} {b o : Nat} {vs : List Value} (h : w.rangeAt b o vs) (hl : vs.length = 4) : (loadC (.pointer (some ⟨b, o, none⟩))).run Try.prog w = .ok (.agg vs.toArray) w :=
  run_loadAt_mid w b o 28 vs _ h Try.underlying28 rfl (by rw [hl]; kernel_rfl)
theorem bel_drewS (W : World) : Below W.heap.size W W.drew := (Below.refl _ W).drew
attribute [local go_sem ↓] load_c
set_option maxHeartbeats 8000000 in
set_option maxRecDepth 100000 in
theorem ref_Same1 (d : Nat) : ∀ (d2 : Nat) (c : Cl) (v u : Value) (w : World), RdC w d v c → RdC w d2 u c → LenC c → Calls Try.prog 23 #[v, u] w fun x w' => x = .returned (.bool true) ∧ Below w.heap.size w w' := by
  induction d with
  | zero => intro d2 c v u w h; exact h.elim
  | succ d ih =>
  intro d2 c v u w hrd hrd2 hlen
  obtain ⟨d', ao, cap, hd, rfl, hk1⟩ := hrd.open
  obtain rfl : d' = d := by omega
  obtain ⟨e2, ao2, cap2, -, rfl, hk2⟩ := hrd2.open
  obtain ⟨hl1, hl2⟩ := (lenC_iff c).1 hlen
  obtain ⟨k, hk⟩ : ∃ k, k = c.k := ⟨_, rfl⟩
  obtain ⟨t, ht⟩ : ∃ t, t = c.t := ⟨_, rfl⟩
  obtain ⟨n, hn⟩ : ∃ n, n = c.n := ⟨_, rfl⟩
  obtain ⟨l, hl⟩ : ∃ l, l = c.kids := ⟨_, rfl⟩
  rw [← hk, ← ht, ← hn, ← hl]
  rw [← hl] at hk1 hk2 hl1 hl2
  obtain ⟨m, hm⟩ : ∃ m, m = l.length := ⟨_, rfl⟩
  rw [← hm] at hl1 ⊢
  have hmI : (m : Int) ≤ 9223372036854775807 := Int.le_trans (Int.ofNat_le.2 hl1) (by decide +kernel)
  obtain ⟨W, hW⟩ : ∃ W, W = (w.alloc (.cells #[.int .i64 k, .int .i64 t, .int .i64 n, .slice ao m cap] 28)).alloc (.cells #[.int .i64 k, .int .i64 t, .int .i64 n, .slice ao2 m cap2] 28) := ⟨_, rfl⟩
  obtain ⟨cb, hcb⟩ : ∃ b, b = w.heap.size := ⟨_, rfl⟩
  obtain ⟨db, hdb⟩ : ∃ b, b = w.heap.size + 1 := ⟨_, rfl⟩
  have hB : Below w.heap.size w W := by rw [hW]; exact ((Below.refl _ w).alloc (Nat.le_refl _) _).alloc (by simp) _
  have g1 : W.heap[cb]? = some (.cells #[.int .i64 k, .int .i64 t, .int .i64 n, .slice ao m cap] 28 (0, 0)) := by
    rw [hW, hcb]; exact (Below.heap_alloc _ _ _ (by simp)).trans (World.alloc_heap_new _ _)
  have g2 : W.heap[db]? = some (.cells #[.int .i64 k, .int .i64 t, .int .i64 n, .slice ao2 m cap2] 28 (0, 0)) := by
    have h := World.alloc_heap_new (w.alloc (.cells #[.int .i64 k, .int .i64 t, .int .i64 n, .slice ao m cap] 28)) (.cells #[.int .i64 k, .int .i64 t, .int .i64 n, .slice ao2 m cap2] 28)
    rw [World.size_alloc, ← hdb] at h
    rw [hW]; exact h
  have a0 : W.cell? ⟨cb, 0, none⟩ = some (.int .i64 k) := by rw [World.cell?, g1]; rfl
  have a1 : W.cell? ⟨cb, 1, none⟩ = some (.int .i64 t) := by rw [World.cell?, g1]; rfl
  have a2 : W.cell? ⟨cb, 2, none⟩ = some (.int .i64 n) := by rw [World.cell?, g1]; rfl
  have a3 : W.cell? ⟨cb, 3, none⟩ = some (.slice ao m cap) := by rw [World.cell?, g1]; rfl
  have b0 : W.cell? ⟨db, 0, none⟩ = some (.int .i64 k) := by rw [World.cell?, g2]; rfl
  have b1 : W.cell? ⟨db, 1, none⟩ = some (.int .i64 t) := by rw [World.cell?, g2]; rfl
  have b2 : W.cell? ⟨db, 2, none⟩ = some (.int .i64 n) := by rw [World.cell?, g2]; rfl
  have b3 : W.cell? ⟨db, 3, none⟩ = some (.slice ao2 m cap2) := by rw [World.cell?, g2]; rfl
  have HB := Lib.hid hB
  have H1 := Lib.hid (RdCs.below hk1 hB)
  have H2 := Lib.hid (RdCs.below hk2 hB)
  have HCB := Lib.hid (And.intro (Array.getElem?_eq_some_iff.1 g1).1 (Array.getElem?_eq_some_iff.1 g2).1)
  have HM := Lib.hid (And.intro hm hl2)
  have IH := Lib.hid ih
  have HA := Lib.hid (And.intro a3 b3)
  clear g1 g2 hB hk1 hk2 hm hl2 ih hrd hrd2 hlen hk ht hn hl hd hl1
  go_enter Try.func23, Try.ntmps23
  go_upto_region 1 with fail
  rw [← hW, ← hdb, ← hcb]
  clear hW hcb hdb
  go_wp2_with fail
  go_loopw [5] (fun i wr => ∃ j : Nat, j ≤ m ∧ i = .int .i64 j ∧ Below W.heap.size W wr) (fun i _ => m - (intOf i).toNat)
  case atStart => exact ⟨0, by omega, rfl, Below.refl _ _⟩
  case round =>
    obtain ⟨j, hj, rfl, hb⟩ := hrel
    have HBW := Lib.hid hb
    clear a0 a1 a2 a3 b0 b1 b2 b3
    have a3 : wr.cell? ⟨cb, 3, none⟩ = some (.slice ao m cap) := (World.cell?_of_block (a := ⟨cb, 3, none⟩) (hb.block cb HCB.out.1)).trans HA.out.1
    have b3 : wr.cell? ⟨db, 3, none⟩ = some (.slice ao2 m cap2) := (World.cell?_of_block (a := ⟨db, 3, none⟩) (hb.block db HCB.out.2)).trans HA.out.2
    by_cases hlt : j < m
    · have hlt' : (j : Int) < m := by omega
      have hj0 : (0 : Int) ≤ (j : Int) := by omega
      have hjl : j < l.length := by rw [← HM.out.1]; exact hlt
      obtain ⟨kb, ko, vs, rfl, hkb, hrg, hrd⟩ := H1.out j hjl
      obtain ⟨kb2, ko2, vs2, rfl, hkb2, hrg2, hrd2⟩ := H2.out j hjl
      have hv4 : vs.length = 4 := by obtain ⟨x1, x2, x3⟩ := hrd.cells; rw [x3]; rfl
      have hv42 : vs2.length = 4 := by obtain ⟨x1, x2, x3⟩ := hrd2.cells; rw [x3]; rfl
      have hS : ∀ W', Below wr.heap.size wr W' → W'.cell? ⟨cb, 3, none⟩ = some (.slice (some ⟨kb, ko, none⟩) m cap) ∧ W'.cell? ⟨db, 3, none⟩ = some (.slice (some ⟨kb2, ko2, none⟩) m cap2) ∧
          (loadC (.pointer (some ⟨kb, ko + j * 4, none⟩))).run Try.prog W' = .ok (.agg vs.toArray) W' ∧ (loadC (.pointer (some ⟨kb2, ko2 + j * 4, none⟩))).run Try.prog W' = .ok (.agg vs2.toArray) W' := fun W' hb' => by
        have hsz := hb.size
        have hcl := HCB.out
        exact ⟨(World.cell?_of_block (a := ⟨cb, 3, none⟩) (hb'.block cb (by omega))).trans a3, (World.cell?_of_block (a := ⟨db, 3, none⟩) (hb'.block db (by omega))).trans b3,
          run_loadCG (rangeAt_keep (rangeAt_keep hrg (hb.block kb hkb)) (hb'.block kb (by omega))) hv4, run_loadCG (rangeAt_keep (rangeAt_keep hrg2 (hb.block kb2 hkb2)) (hb'.block kb2 (by omega))) hv42⟩
      have hcall := fun W' (hb' : Below wr.heap.size wr W') => IH.out _ l[j] _ _ W' ((RdC.below hb hrd).below hb') ((RdC.below hb hrd2).below hb') (HM.out.2 _ (List.getElem_mem hjl))
      have HS := Lib.hid hS
      have HC := Lib.hid hcall
      have BD := Lib.hid (bel_drewS wr)
      clear hkb hrg hrd hkb2 hrg2 hrd2 hv4 hv42 hS hcall hb hjl
      go_wp2_with fail
      first
        | go_region_held3 (fun W' => W'.cell? ⟨cb, 3, none⟩ = some (.slice (some ⟨kb, ko, none⟩) m cap) ∧ W'.cell? ⟨db, 3, none⟩ = some (.slice (some ⟨kb2, ko2, none⟩) m cap2) ∧ (loadC (.pointer (some ⟨kb, ko + j * 4, none⟩))).run Try.prog W' = .ok (.agg vs.toArray) W' ∧ (loadC (.pointer (some ⟨kb2, ko2 + j * 4, none⟩))).run Try.prog W' = .ok (.agg vs2.toArray) W')
            (first | exact HS.out _ B1.out | exact HS.out _ BD.out | fail)
            (first
              | (go_at_call 23; with_reducible refine (HC.out _ BD.out).mono ?_; rintro x w1 ⟨rfl, hb⟩; have B1 := Lib.hid (BD.out.trans (hb.mono BD.out.size)); clear hb)
              | fail)
        | fail
      all_goals go_wp2_with fail
      go_roundw
      case rel => exact ⟨j + 1, by omega, by go_num, HBW.out.trans (B1.out.mono HBW.out.size)⟩
      case measure => simp [intOf]; omega
    · obtain rfl : j = m := by omega
      have hge : ¬ (j : Int) < j := by omega
      clear hlt hj
      go_wp2_with fail
      exact bodyPost_ret (v := .bool true) (by simp [results, Try.results23, go_sem]) rfl ⟨rfl, HB.out.trans (HBW.out.mono HB.out.size)⟩
end Go.Proofs.Ytbndegkgpoemnaa
end

section
namespace Go.Proofs.Ytbndegkgpoemnaa
open Go.RowKit
set_option linter.unusedVariables false
set_option linter.unusedSimpArgs false

theorem voteEq_self (v : Vt) : voteEq v v = true := by simp [voteEq]
attribute [local go_sem ↓] load_h load_v load_c eq_hash eq_vote
set_option maxHeartbeats 8000000 in
set_option maxRecDepth 100000 in
theorem ref_SameExt1 (a b : Ex) (c : Cl) (d d2 : Nat) (w : World) (hh : b.hd = a.hd) (hsm : b.sum = a.sum) (hvt : b.vote = a.vote)
    (hrd : RdC w d (.agg #[.int .i64 a.ck, .int .i64 a.ct, .int .i64 a.cn, .slice a.ca a.m a.cc]) c) (hrd2 : RdC w d2 (.agg #[.int .i64 b.ck, .int .i64 b.ct, .int .i64 b.cn, .slice b.ca b.m b.cc]) c) (hlen : LenC c) :
    Calls Try.prog 15 #[.agg (ec a).toArray, .agg (ec b).toArray] w fun x w' => x = .returned (.bool true) ∧ Below w.heap.size w w' := by
  obtain ⟨W, hW⟩ : ∃ W, W = (w.alloc (.cells (ec a).toArray 30)).alloc (.cells (ec b).toArray 30) := ⟨_, rfl⟩
  obtain ⟨cb, hcb⟩ : ∃ b, b = w.heap.size := ⟨_, rfl⟩
  obtain ⟨db, hdb⟩ : ∃ b, b = w.heap.size + 1 := ⟨_, rfl⟩
  have hB : Below w.heap.size w W := by rw [hW]; exact ((Below.refl _ w).alloc (Nat.le_refl _) _).alloc (by simp) _
  have g1 : W.heap[cb]? = some (.cells (ec a).toArray 30 (0, 0)) := by
    rw [hW, hcb]; exact (Below.heap_alloc _ _ _ (by simp)).trans (World.alloc_heap_new _ _)
  have g2 : W.heap[db]? = some (.cells (ec b).toArray 30 (0, 0)) := by
    have h := World.alloc_heap_new (w.alloc (.cells (ec a).toArray 30)) (.cells (ec b).toArray 30)
    rw [World.size_alloc, ← hdb] at h
    rw [hW]; exact h
  have hp : PairE w cb db a b W := ⟨hB, by omega, by omega, by omega, g1, g2⟩
  obtain ⟨k, who, to', n, r, tr, lv, he⟩ : ∃ k who to' n r tr lv, a.hd = [k, who, to', n, r, tr, lv] := by
    have h := a.h7
    match a.hd, h with
    | [a, b, c, d, f, g, i], _ => exact ⟨a, b, c, d, f, g, i, rfl⟩
  have he2 : b.hd = [k, who, to', n, r, tr, lv] := hh.trans he
  have x0 : W.cell? ⟨cb, 0, none⟩ = some (.int .i64 k) := by rw [hp.cell (by omega), he]; rfl
  have x1 : W.cell? ⟨cb, 1, none⟩ = some (.int .i64 who) := by rw [hp.cell (by omega), he]; rfl
  have x2 : W.cell? ⟨cb, 2, none⟩ = some (.int .i64 to') := by rw [hp.cell (by omega), he]; rfl
  have x3 : W.cell? ⟨cb, 3, none⟩ = some (.int .i64 n) := by rw [hp.cell (by omega), he]; rfl
  have x4 : W.cell? ⟨cb, 4, none⟩ = some (.int .i64 r) := by rw [hp.cell (by omega), he]; rfl
  have x5 : W.cell? ⟨cb, 5, none⟩ = some (.int .i64 tr) := by rw [hp.cell (by omega), he]; rfl
  have x6 : W.cell? ⟨cb, 6, none⟩ = some (.int .i64 lv) := by rw [hp.cell (by omega), he]; rfl
  have y0 : W.cell? ⟨db, 0, none⟩ = some (.int .i64 k) := by rw [hp.cell1 (by omega), he2]; rfl
  have y1 : W.cell? ⟨db, 1, none⟩ = some (.int .i64 who) := by rw [hp.cell1 (by omega), he2]; rfl
  have y2 : W.cell? ⟨db, 2, none⟩ = some (.int .i64 to') := by rw [hp.cell1 (by omega), he2]; rfl
  have y3 : W.cell? ⟨db, 3, none⟩ = some (.int .i64 n) := by rw [hp.cell1 (by omega), he2]; rfl
  have y4 : W.cell? ⟨db, 4, none⟩ = some (.int .i64 r) := by rw [hp.cell1 (by omega), he2]; rfl
  have y5 : W.cell? ⟨db, 5, none⟩ = some (.int .i64 tr) := by rw [hp.cell1 (by omega), he2]; rfl
  have y6 : W.cell? ⟨db, 6, none⟩ = some (.int .i64 lv) := by rw [hp.cell1 (by omega), he2]; rfl
  have LH1 := run_loadH g1
  have LV1 := run_loadV g1
  have LC1 := run_loadC g1
  have LH2 := run_loadH g2
  have LV2 := run_loadV g2
  have LC2 := run_loadC g2
  rw [hsm] at LH2
  rw [hvt] at LV2
  have EH := run_eqHash W a.sum a.sum a.h32 a.h32
  have EV := run_eqVote W a.vote a.vote
  rw [voteEq_self] at EV
  rw [decide_eq_true rfl] at EH
  have HC := Lib.hid (ref_Same1 d d2 c _ _ W (hrd.below hB) (hrd2.below hB) hlen)
  have HB := Lib.hid hB
  clear hp he he2 g1 g2 hh hsm hvt hrd hrd2 hlen hB
  go_enter Try.func15, Try.ntmps15
  go_upto_region 1 with fail
  rw [← hW, ← hdb, ← hcb]
  clear hW hcb hdb
  go_wp2_with (first
    | (go_at_call 23; with_reducible refine HC.out.mono ?_; rintro x w1 ⟨rfl, hb⟩; have B1 := Lib.hid (HB.out.trans (hb.mono HB.out.size)); clear hb)
    | fail)
  exact bodyPost_ret (v := .bool true) (by simp [results, Try.results15, go_sem]) rfl ⟨rfl, B1.out⟩
end Go.Proofs.Ytbndegkgpoemnaa
end

section
namespace Go.Proofs.Ytbndegkgpoemnaa
open Go.RowKit
set_option linter.unusedVariables false
set_option linter.unusedSimpArgs false

theorem run_lvC {w : World} {b : Nat} {y : C4} (h : w.heap[b]? = some (.cells (c4 y).toArray 28 (0, 0))) : (loadVar 28 ⟨b, 0, none⟩).run Try.prog w = .ok (.agg (c4 y).toArray) w := by
  have q := run_loadCG (rangeAt_whole h) rfl
  unfold loadC Instr.loadAt at q
  simpa [Instr.sureAddr] using q
theorem rc3 (v : Value) (l : List Nat) (c : Cl) (w : World) (hr : RdB w v l) (hby : ByL l) (hc : readC 3 l = c) : Calls Try.prog 53 #[v, .int .i64 3] w fun e w' => ∃ (a2 : Option Addr) (c2 : Nat), e = .returned (.agg #[.int .i64 c.k, .int .i64 c.t, .int .i64 c.n, .slice a2 c.kids.length c2]) ∧ RdZ (fun b => b < w.heap.size) w' 4 (.agg #[.int .i64 c.k, .int .i64 c.t, .int .i64 c.n, .slice a2 c.kids.length c2]) c ∧ Below w.heap.size w w' := by
  refine (code_readCall 3 (by decide) v l w hr hby).mono ?_
  rintro e w' ⟨u, rfl, hz, hb⟩
  rw [hc] at hz
  obtain ⟨a2, c2, rfl⟩ := hz.cells
  exact ⟨a2, c2, rfl, hz, hb⟩
set_option maxHeartbeats 8000000 in
set_option maxRecDepth 100000 in
theorem code_DecodeCallOk (v : Value) (l : List Nat) (c : Cl) (w : World) (hr : RdB w v l) (hby : ByL l) (hok : okC 3 c = true) (hl : l = layT c) :
    Calls Try.prog 22 #[v] w fun x w' => ∃ y : C4, x = .returned (.tuple #[.agg (c4 y).toArray, .int .i64 0]) ∧ RdZ (fun b => b < w.heap.size) w' 4 (.agg (c4 y).toArray) c ∧ Below w.heap.size w w' := by
  have hrc : readC 3 l = c := by rw [hl]; exact readC_layT 3 c (Nat.le_refl 3) hok
  obtain ⟨ao, cap, hv⟩ := hr.lenOf
  obtain ⟨m, hm⟩ : ∃ m, m = l.length := ⟨_, rfl⟩
  rw [← hm] at hv
  subst hv
  obtain ⟨W1, hW1⟩ : ∃ W1, W1 = w.alloc (.cells zero4 28) := ⟨_, rfl⟩
  obtain ⟨rs, hrs⟩ : ∃ b, b = w.heap.size := ⟨_, rfl⟩
  have hb1 : Below w.heap.size w W1 := by rw [hW1]; exact bel_alloc _ _
  have hat : W1.heap[rs]? = some (.cells zero4 28 (0, 0)) := by rw [hW1, hrs]; exact World.alloc_heap_new _ _
  have HW := Lib.hid (And.intro hW1 hrs)
  have H1 := Lib.hid (And.intro hb1 hat)
  have HR := Lib.hid hr
  have HBY := Lib.hid hby
  have HOK := Lib.hid hok
  have HLL := Lib.hid (And.intro hl hrc)
  clear hr hby hm hW1 hrs hb1 hat hok hl hrc
  obtain ⟨k, hk⟩ : ∃ k, k = c.k := ⟨_, rfl⟩
  obtain ⟨t, ht⟩ : ∃ t, t = c.t := ⟨_, rfl⟩
  obtain ⟨n, hn⟩ : ∃ n, n = c.n := ⟨_, rfl⟩
  obtain ⟨nk, hnk⟩ : ∃ n, n = c.kids.length := ⟨_, rfl⟩
  go_enter Try.func22, Try.ntmps22
  go_upto_region 1 with fail
  rw [← HW.out.1, ← HW.out.2]
  go_upto_region 2 with (first
    | (go_at_call 53; with_reducible refine (rc3 _ l c _ (HR.out.below H1.out.1) HBY.out HLL.out.2).mono ?_; rintro x w2 ⟨a2, c2, rfl, hz, hb⟩; have Z2 := Lib.hid hz; have B2 := Lib.hid hb; clear hz hb)
    | fail)
  rw [← hk, ← ht, ← hn, ← hnk] at Z2
  rw [← hk, ← ht, ← hn, ← hnk]
  clear hk ht hn hnk
  obtain ⟨eb, heb⟩ : ∃ b, b = w2.heap.size := ⟨_, rfl⟩
  obtain ⟨Wd, hWd⟩ : ∃ Wd, Wd = w2.alloc (.cells #[.int .i64 k, .int .i64 t, .int .i64 n, .slice a2 nk c2] 28) := ⟨_, rfl⟩
  have hatd : Wd.heap[eb]? = some (.cells #[.int .i64 k, .int .i64 t, .int .i64 n, .slice a2 nk c2] 28 (0, 0)) := by rw [hWd, heb]; exact World.alloc_heap_new _ _
  have hbd : Below w2.heap.size w2 Wd := by rw [hWd]; exact bel_alloc w2 _
  rw [← hWd, ← heb]
  have hb2 := B2.out
  have h1 := H1.out.1
  have hrl : rs < W1.heap.size := (Array.getElem?_eq_some_iff.1 H1.out.2).1
  have D1 := Lib.hid (show Below w.heap.size w Wd from (h1.trans (hb2.mono h1.size)).trans (hbd.mono (Nat.le_trans h1.size hb2.size)))
  have AT := Lib.hid hatd
  have RS := Lib.hid ((hbd.block rs (by have := hb2.size; omega)).trans ((hb2.block rs hrl).trans H1.out.2))
  have hZ : RdZ (fun b => b < W1.heap.size) Wd 4 (.agg #[.int .i64 k, .int .i64 t, .int .i64 n, .slice a2 nk c2]) c := RdZ.keep hbd.size (fun _ _ z => z) (fun x hx _ => hbd.block x hx) Z2.out
  have Z1 := Lib.hid hZ
  have EG := Lib.hid (enc_good hZ.toC HOK.out)
  have HRL := Lib.hid (And.intro hrl HW.out.2)
  have LT := Lib.hid (layT_lt c)
  clear hatd hbd hb2 h1 hrl hZ hWd heb B2 Z2
  go_wp2_with (first
    | (refine wpl_loadC _ rfl rfl rfl (rangeAt_whole A4.out) rfl ?_)
    | (refine wpl_loadC _ rfl rfl rfl (rangeAt_whole AT.out) rfl ?_)
    | (go_at_call 21; with_reducible refine EG.out.mono ?_; rintro x w3 ⟨u3, rfl, ho, hb⟩; have D3 := Lib.hid (D1.out.trans (hb.mono D1.out.size)); have A3 := Lib.hid ((hb.block eb (Array.getElem?_eq_some_iff.1 AT.out).1).trans AT.out); have R3 := Lib.hid ((hb.block rs (Array.getElem?_eq_some_iff.1 RS.out).1).trans RS.out); have Z3 := Lib.hid (RdZ.keep hb.size (fun _ _ z => z) (fun x hx _ => hb.block x hx) Z1.out); have O3 := Lib.hid ho.reads; clear ho hb)
    | (go_at_call 35; with_reducible refine (bytes_Equal _ _ _ l _ O3.out (HR.out.below D3.out) LT.out HBY.out.lt).mono ?_; rw [decide_eq_true HLL.out.1.symm]; rintro x w4 ⟨rfl, hb⟩; have D4 := Lib.hid (D3.out.trans (hb.mono D3.out.size)); have A4 := Lib.hid ((hb.block eb (Array.getElem?_eq_some_iff.1 A3.out).1).trans A3.out); have R4 := Lib.hid ((hb.block rs (Array.getElem?_eq_some_iff.1 R3.out).1).trans R3.out); have Z4 := Lib.hid (RdZ.keep hb.size (fun _ _ z => z) (fun x hx _ => hb.block x hx) Z3.out); clear hb)
    | (refine wpl_storeD (vs := #[.int .i64 k, .int .i64 t, .int .i64 n, .slice a2 nk c2]) _ _ rfl rfl rfl rfl R4.out rfl rfl (ones4D k t n _ _ _) ?_)
    | fail)
  have hfin := setRow_heap w4 _ _ #[.int .i64 k, .int .i64 t, .int .i64 n, .slice a2 nk c2] _ _ R4.out
  have ho : ∀ x, x ≠ rs → (w4.setRow rs #[.int .i64 k, .int .i64 t, .int .i64 n, .slice a2 nk c2]).heap[x]? = w4.heap[x]? := fun x hx => setRow_other _ _ _ _ hx
  have hs4 : (w4.setRow rs #[.int .i64 k, .int .i64 t, .int .i64 n, .slice a2 nk c2]).heap.size = w4.heap.size := by simp
  have hlv := run_lvC (y := (k, t, n, a2, nk, c2)) hfin
  have hq := HRL.out
  have hd4 := D4.out
  exact bodyPost_ret (v := .tuple #[.agg #[.int .i64 k, .int .i64 t, .int .i64 n, .slice a2 nk c2], .int .i64 0]) (results_cellT Try.results22 rfl rfl hlv) rfl
    ⟨(k, t, n, a2, nk, c2), rfl, RdZ.keep (by omega) (fun x _ hx => by have h1 : x < w.heap.size := hx; show x < W1.heap.size; omega) (fun x _ hx => ho x (fun e => hx (by show x < W1.heap.size; omega))) Z4.out, hd4.trans ⟨rfl, rfl, rfl, by omega, fun x hx => ho x (by omega)⟩⟩
end Go.Proofs.Ytbndegkgpoemnaa
end

section
namespace Go.Proofs.Ytbndegkgpoemnaa
open Go.RowKit
set_option linter.unusedVariables false
set_option linter.unusedSimpArgs false

set_option maxHeartbeats 4000000 in
set_option maxRecDepth 100000 in
theorem rng_call (k who to' n r tr lv : Int) (e : Ex) (cOk vOk : Bool) (h : isX k who to' n r tr lv e cOk vOk = true) : cOk = true ∨ (e.ck = 0 ∧ e.ct = 0 ∧ e.cn = 0 ∧ e.m = 0) := by
  by_cases hk : 1 ≤ k ∧ k ≤ 11
  · obtain ⟨hd, h7, sm, h32, ⟨v1, v2, v3, v4, v5, v6⟩, ck, ct, cn, ca, cc, m⟩ := e
    have hk2 : k = 1 ∨ k = 2 ∨ k = 3 ∨ k = 4 ∨ k = 5 ∨ k = 6 ∨ k = 7 ∨ k = 8 ∨ k = 9 ∨ k = 10 ∨ k = 11 := by omega
    obtain ⟨Z, hZ⟩ : ∃ Z, Z = List.replicate 32 0 := ⟨_, rfl⟩
    unfold isX at h
    rcases hk2 with rfl | rfl | rfl | rfl | rfl | rfl | rfl | rfl | rfl | rfl | rfl
    all_goals
      simp only [fieldsOk, wiped, exWith, extEq, exZero, voteEq, ← hZ] at h
      simp at h ⊢
      cases vOk <;> cases cOk <;> simp at h ⊢ <;> omega
  · unfold isX at h
    rw [decide_eq_false hk] at h
    simp at h
/-- Two extrinsics alike but for where their calls lie. -/
structure LikeE (a b : Ex) : Prop where
  hd : b.hd = a.hd
  sum : b.sum = a.sum
  vote : b.vote = a.vote
  ck : b.ck = a.ck
  ct : b.ct = a.ct
  cn : b.cn = a.cn
  m : b.m = a.m
theorem LikeE.isX {a b : Ex} (h : LikeE a b) (k who to' n r tr lv : Int) (cOk vOk : Bool) : Proofs.Ytbndegkgpoemnaa.isX k who to' n r tr lv b cOk vOk = Proofs.Ytbndegkgpoemnaa.isX k who to' n r tr lv a cOk vOk := by
  obtain ⟨h1, h2, h3, h4, h5, h6, h7⟩ := h
  obtain ⟨a1, a2, a3, a4, a5, a6, a7, a8, a9, a10, a11⟩ := a
  obtain ⟨b1, b2, b3, b4, b5, b6, b7, b8, b9, b10, b11⟩ := b
  simp only at h1 h2 h3 h4 h5 h6 h7
  subst h1 h2 h3 h4 h5 h6 h7
  simp only [Proofs.Ytbndegkgpoemnaa.isX, wiped, exWith, extEq]
theorem LikeE.ok {a b : Ex} (h : LikeE a b) (c : Cl) : okE b c = okE a c := by
  unfold okE
  rw [h.hd, h.vote]
  exact h.isX _ _ _ _ _ _ _ _ _
theorem LikeE.lay {a b : Ex} (h : LikeE a b) (c : Cl) : layE b c = layE a c := by
  unfold layE callB
  rw [h.hd, h.sum, h.vote, h.ck]
theorem getD_ofNat (l : List Nat) (i : Nat) : ((l.getD i 0 : Nat) : Int) = (l.map Int.ofNat).getD i 0 := by
  by_cases h : i < l.length
  · simp [h]
  · simp [h]
theorem vote_back {l : List Nat} {v : Vt} (h1 : (rdNs 5 (lVote l)).map Int.ofNat = vnums v) (h2 : (rdN (lAye l)).1 = (ayeN v).toNat) : voteR l = v := by
  have hay : decide ((rdN (lAye l)).1 = 1) = v.aye := by
    rw [h2]
    unfold ayeN
    cases v.aye <;> rfl
  unfold voteR
  rw [hay]
  simp only [getD_ofNat, h1]
  rfl
theorem readC_nil : readC 3 [] = .mk 0 0 0 [] := by kernel_rfl
theorem okC_pos : ∀ {q : Nat} {c : Cl}, okC q c = true → 1 ≤ c.k := by
  intro q c h
  cases q with
  | zero =>
    simp only [okC, decide_eq_true_eq] at h
    unfold leafOk at h
    omega
  | succ q =>
    simp only [okC, Bool.or_eq_true, decide_eq_true_eq, Bool.and_eq_true] at h
    rcases h with h | ⟨h, -⟩
    · unfold leafOk at h; omega
    · simp only [headOk, decide_eq_true_eq, Bool.and_eq_true, beq_iff_eq] at h
      omega
theorem call_back {e : Ex} {c : Cl} {d : Nat} {w : World} (hok : okE e c = true) (hrd : RdC w d (.agg #[.int .i64 e.ck, .int .i64 e.ct, .int .i64 e.cn, .slice e.ca e.m e.cc]) c) : readC 3 (callB e c) = c ∧ (e.ck = c.k ∧ e.ct = c.t ∧ e.cn = c.n ∧ e.m = c.kids.length) := by
  have hcells : e.ck = c.k ∧ e.ct = c.t ∧ e.cn = c.n ∧ e.m = c.kids.length := by
    obtain ⟨d', ao, cap, -, e1, -⟩ := hrd.open
    have e2 := congrArg (fun v => match v with | Value.agg a => a.toList | _ => []) e1
    simp only [List.cons.injEq, Value.int.injEq, Value.slice.injEq, true_and, and_true] at e2
    exact ⟨e2.1, e2.2.1, e2.2.2.1, e2.2.2.2.2.1⟩
  refine ⟨?_, hcells⟩
  rcases rng_call _ _ _ _ _ _ _ _ _ _ hok with h | ⟨h1, h2, h3, h4⟩
  · have hck : ¬ e.ck = 0 := by
      intro h0
      rw [hcells.1] at h0
      have := okC_pos h
      omega
    unfold callB
    rw [if_neg hck]
    exact readC_layT 3 c (Nat.le_refl 3) h
  · unfold callB
    rw [if_pos h1, readC_nil]
    obtain ⟨q1, q2, q3, q4⟩ := hcells
    obtain ⟨k, t, n, l⟩ := c
    simp only [Cl.k, Cl.t, Cl.n, Cl.kids] at q1 q2 q3 q4
    have hl : l = [] := List.length_eq_zero_iff.1 (by omega)
    rw [← q1, ← q2, ← q3, hl, h1, h2, h3]
theorem dec_ext_ok (e : Ex) (c : Cl) (d : Nat) (w0 : World) (hok : okE e c = true) (hrd : RdC w0 d (.agg #[.int .i64 e.ck, .int .i64 e.ct, .int .i64 e.cn, .slice e.ca e.m e.cc]) c) (h256 : ∀ x ∈ e.sum, x < 256) (v : Value) (w : World) (hr : RdB w v (layE e c)) :
    Calls Try.prog 13 #[v] w fun x w' => ∃ b : Ex, x = .returned (.tuple #[.agg (ec b).toArray, .int .i64 0]) ∧ (b.hd = e.hd ∧ b.sum = e.sum ∧ b.vote = e.vote) ∧ RdC w' 4 (.agg #[.int .i64 b.ck, .int .i64 b.ct, .int .i64 b.cn, .slice b.ca b.m b.cc]) c ∧ Below w.heap.size w w' := by
  have hln := layE_len hok
  refine (code_DecodeExt v (layE e c) w hr ⟨layE_lt h256, by omega⟩).mono ?_
  rintro x w' ⟨y, hcy, h⟩
  have hp := layE_parts (okE_rng hok) []
  rw [List.append_nil] at hp
  obtain ⟨p1, p2, p3, p4, p5⟩ := hp
  obtain ⟨cb1, q1, q2, q3, q4⟩ := call_back hok hrd
  have hcr : callR (layE e c) = c := by unfold callR; rw [p5]; exact cb1
  have hvt := vote_back p3 p4
  rw [hcr] at hcy h
  have hlike : LikeE e (e5R (layE e c) y) := ⟨p1, p2, hvt, hcy.1.trans q1.symm, hcy.2.1.trans q2.symm, hcy.2.2.1.trans q3.symm, hcy.2.2.2.trans q4.symm⟩
  rw [hlike.ok c, hlike.lay c] at h
  rcases h with ⟨h1, -, h2, h3⟩ | ⟨-, h2, -⟩
  · exact ⟨_, h1, ⟨hlike.hd, hlike.sum, hlike.vote⟩, h2.toC, h3⟩
  · exact absurd ⟨hok, rfl⟩ h2
end Go.Proofs.Ytbndegkgpoemnaa
end

section
namespace Go.Proofs.Ytbndegkgpoemnaa
open Go.RowKit
set_option linter.unusedVariables false
set_option linter.unusedSimpArgs false

/-- The law's two arguments in their places. -/
structure BkSt (w : World) (cb eb : Nat) (x : C4) (e : Ex) (W : World) : Prop where
  old : Below w.heap.size w W
  ca : W.heap[cb]? = some (.cells (c4 x).toArray 28 (0, 0))
  ea : W.heap[eb]? = some (.cells (ec e).toArray 30 (0, 0))
theorem BkSt.below {w : World} {cb eb : Nat} {x : C4} {e : Ex} {W W' : World} (h : BkSt w cb eb x e W) (hb : Below W.heap.size W W') : BkSt w cb eb x e W' :=
  ⟨h.old.trans (hb.mono h.old.size), (hb.block cb (Array.getElem?_eq_some_iff.1 h.ca).1).trans h.ca, (hb.block eb (Array.getElem?_eq_some_iff.1 h.ea).1).trans h.ea⟩
theorem bk_one {W W' : World} {b : Nat} {o : Obj} (h : W.heap[b]? = some o) (hb : Below W.heap.size W W') : W'.heap[b]? = some o := (hb.block b (Array.getElem?_eq_some_iff.1 h).1).trans h
theorem c4_ones (y : C4) : (c4 y).toArray.all (fun u => u.oneCell') = true := by simp [c4, Value.oneCell']
attribute [local go_sem ↓] load_e store_e alloc_e load_c
set_option maxHeartbeats 8000000 in
set_option maxRecDepth 100000 in
theorem codeBack_walk (x : C4) (c : Cl) (d : Nat) (e : Ex) (ce : Cl) (de : Nat) (w : World) (hrc : RdC w d (.agg (c4 x).toArray) c) (hlc : LenC c) (hrd : RdC w de (.agg #[.int .i64 e.ck, .int .i64 e.ct, .int .i64 e.cn, .slice e.ca e.m e.cc]) ce) (hlen : LenC ce) (h256 : ∀ b ∈ e.sum, b < 256) :
    Calls Try.prog 4 #[.agg (c4 x).toArray, .agg (ec e).toArray] w fun z w' => z = .returned (.bool true) ∧ Below w.heap.size w w' := by
  obtain ⟨W, hW⟩ : ∃ W, W = (w.alloc (.cells (c4 x).toArray 28)).alloc (.cells (ec e).toArray 30) := ⟨_, rfl⟩
  obtain ⟨cb, hcb⟩ : ∃ b, b = w.heap.size := ⟨_, rfl⟩
  obtain ⟨eb, heb⟩ : ∃ b, b = w.heap.size + 1 := ⟨_, rfl⟩
  have hS : BkSt w cb eb x e W := by
    refine ⟨by rw [hW]; exact ((Below.refl _ w).alloc (Nat.le_refl _) _).alloc (by simp) _, ?_, ?_⟩
    · rw [hW, hcb]; exact (Below.heap_alloc _ _ _ (by simp)).trans (World.alloc_heap_new _ _)
    · have h := World.alloc_heap_new (w.alloc (.cells (c4 x).toArray 28)) (.cells (ec e).toArray 30)
      rw [World.size_alloc, ← heb] at h
      rw [hW]; exact h
  obtain ⟨q1, hq1⟩ : ∃ q, q = okC 3 c := ⟨_, rfl⟩
  obtain ⟨q2, hq2⟩ : ∃ q, q = okE e ce := ⟨_, rfl⟩
  have hI1 := fun W' (hb : Below w.heap.size w W') => ref_IsCall d c _ W' (hrc.below hb)
  have hI2 := fun W' (hb : Below w.heap.size w W') => ref_IsExtE e ce de W' (hrd.below hb)
  rw [← hq1] at hI1
  rw [← hq2] at hI2
  have HZ1 := Lib.hid (fun W' (hb : Below w.heap.size w W') => law_size d c _ W' (hrc.below hb) hlc)
  have HZ2 := Lib.hid (fun W' (hb : Below w.heap.size w W') => law_size de ce _ W' (hrd.below hb) hlen)
  have HI1 := Lib.hid hI1
  have HI2 := Lib.hid hI2
  have HQ := Lib.hid (And.intro hq1 hq2)
  have S0 := Lib.hid hS
  have HRC := Lib.hid hrc
  have HRD := Lib.hid hrd
  have HLC := Lib.hid (And.intro hlc hlen)
  have H256 := Lib.hid h256
  have LC0 := run_loadCG (rangeAt_whole hS.ca) rfl
  clear hI1 hI2 hq1 hq2 hS hrc hlc hrd hlen h256
  by_cases hok : q1 = true ∧ q2 = true
  case neg =>
    have h5 : q1 = false ∨ (q1 = true ∧ q2 = false) := by
      cases q1 <;> cases q2 <;> simp_all
    clear hok
    go_enter Try.func4, Try.ntmps4
    go_upto_region 1 with fail
    rw [← hW, ← heb, ← hcb]
    clear hW heb hcb
    rcases h5 with rfl | ⟨rfl, rfl⟩
    all_goals
      go_wp2_with (first
        | (go_at_call 10; with_reducible refine (HZ2.out _ S1.out.old).mono ?_; rintro z w2 ⟨⟨r2, rfl⟩, hb⟩; have S2 := Lib.hid (S1.out.below hb); clear hb; have LC2 := run_loadCG (rangeAt_whole S2.out.ca) rfl; by_cases hr2 : 300 ≤ r2)
        | (go_at_call 10; with_reducible refine (HZ1.out _ S0.out.old).mono ?_; rintro z w1 ⟨⟨r1, rfl⟩, hb⟩; have S1 := Lib.hid (S0.out.below hb); clear hb; have LX1 := run_loadC S1.out.ea; by_cases hr1 : 300 ≤ r1)
        | (go_at_call 20; with_reducible refine (HI1.out _ S2.out.old).mono ?_; rintro z w3 ⟨rfl, hb⟩; have S3 := Lib.hid (S2.out.below hb); clear hb; have LE3 := run_loadE S3.out.ea)
        | (go_at_call 17; with_reducible refine (HI2.out _ S3.out.old).mono ?_; rintro z w4 ⟨rfl, hb⟩; have S4 := Lib.hid (S3.out.below hb); clear hb)
        | fail)
      all_goals first
        | exact bodyPost_ret (v := .bool true) (by simp [results, Try.results4, go_sem]) rfl ⟨rfl, S4.out.old⟩
        | exact bodyPost_ret (v := .bool true) (by simp [results, Try.results4, go_sem]) rfl ⟨rfl, S3.out.old⟩
        | exact bodyPost_ret (v := .bool true) (by simp [results, Try.results4, go_sem]) rfl ⟨rfl, S2.out.old⟩
        | exact bodyPost_ret (v := .bool true) (by simp [results, Try.results4, go_sem]) rfl ⟨rfl, S1.out.old⟩
  case pos =>
  obtain ⟨rfl, rfl⟩ := hok
  go_enter Try.func4, Try.ntmps4
  go_upto_region 1 with fail
  rw [← hW, ← heb, ← hcb]
  clear hW heb hcb
  go_cut [31] (fun p wx => ∃ q, p = .bool q ∧ BkSt w cb eb x e wx)
  case first =>
    go_wp2_with (first
      | (go_at_call 10; with_reducible refine (HZ2.out _ S1.out.old).mono ?_; rintro z w2 ⟨⟨r2, rfl⟩, hb⟩; have S2 := Lib.hid (S1.out.below hb); clear hb; have LC2 := run_loadCG (rangeAt_whole S2.out.ca) rfl; by_cases hr2 : 300 ≤ r2)
      | (go_at_call 10; with_reducible refine (HZ1.out _ S0.out.old).mono ?_; rintro z w1 ⟨⟨r1, rfl⟩, hb⟩; have S1 := Lib.hid (S0.out.below hb); clear hb; have LX1 := run_loadC S1.out.ea; by_cases hr1 : 300 ≤ r1)
      | (go_at_call 20; with_reducible refine (HI1.out _ S2.out.old).mono ?_; rintro z w3 ⟨rfl, hb⟩; have S3 := Lib.hid (S2.out.below hb); clear hb; have LE3 := run_loadE S3.out.ea)
      | (go_at_call 17; with_reducible refine (HI2.out _ S3.out.old).mono ?_; rintro z w4 ⟨rfl, hb⟩; have S4 := Lib.hid (S3.out.below hb); clear hb)
      | fail)
    all_goals go_meet
    all_goals first
      | exact ⟨_, rfl, S4.out⟩
      | exact ⟨_, rfl, S3.out⟩
      | exact ⟨_, rfl, S2.out⟩
      | exact ⟨_, rfl, S1.out⟩
  case rest =>
  obtain ⟨q, rfl, hS⟩ := hcut
  clear LC0 S0
  cases q
  case true =>
    go_wp2_with fail
    exact bodyPost_ret (v := .bool true) (by simp [results, Try.results4, go_sem]) rfl ⟨rfl, hS.old⟩
  case false =>
  have S1 := Lib.hid hS
  have LC1 := run_loadCG (rangeAt_whole hS.ca) rfl
  clear hS
  have EG := Lib.hid (enc_good (HRC.out.below S1.out.old) HQ.out.1.symm)
  have BL := Lib.hid (show ByL (layT c) from ⟨layT_lt c, by have := okC3_len HQ.out.1.symm; omega⟩)
  go_upto_region 5 with (first
    | (go_at_call 21; with_reducible refine EG.out.mono ?_; rintro z w3 ⟨u3, rfl, ho, hb⟩; have S3 := Lib.hid (S1.out.below hb); have O3 := Lib.hid ho.reads; clear ho hb)
    | (go_at_call 22; with_reducible refine (code_DecodeCallOk _ (layT c) c _ O3.out BL.out HQ.out.1.symm rfl).mono ?_; rintro z w4 ⟨y, rfl, hz, hb⟩; have S4 := Lib.hid (S3.out.below hb); have Z4 := Lib.hid hz.toC; have AL := Lib.hid (World.alloc_heap_new w4 (.cells zero4 28)); clear hz hb)
    | (refine wpl_storeD (vs := (c4 y).toArray) _ _ rfl rfl rfl rfl AL.out rfl rfl (c4_ones y) ?_)
    | fail)
  obtain ⟨xb, hxb⟩ : ∃ b, b = w4.heap.size := ⟨_, rfl⟩
  obtain ⟨WA, hWA⟩ : ∃ V, V = (w4.alloc (.cells zero4 28)).setRow w4.heap.size (c4 y).toArray := ⟨_, rfl⟩
  have hba : Below w4.heap.size w4 WA := by rw [hWA]; exact (bel_alloc w4 _).trans ⟨rfl, rfl, rfl, by simp, fun k hk => setRow_other _ _ _ _ (by omega)⟩
  have hxa : WA.heap[xb]? = some (.cells (c4 y).toArray 28 (0, 0)) := by rw [hWA, hxb]; exact setRow_heap _ _ _ _ _ _ AL.out
  rw [← hWA, ← hxb]
  have SA := Lib.hid (S4.out.below hba)
  have XA := Lib.hid hxa
  have ZA := Lib.hid (Z4.out.below hba)
  have LEA := run_loadE SA.out.ea
  have hen := code_EncodeExt e ce de WA (HRD.out.below SA.out.old)
  rw [← HQ.out.2, if_pos rfl] at hen
  have EN := Lib.hid hen
  have RA := run_allocE
  clear hWA hxb hba hxa hen LC1 S1 S3 S4 Z4 AL EG O3
  go_upto_region 7 with (first
    | (go_at_call 11; with_reducible refine EN.out.mono ?_; rintro z w5 ⟨u5, rfl, ho, hb⟩; rw [if_pos rfl] at ho; have S5 := Lib.hid (SA.out.below hb); have X5 := Lib.hid (bk_one XA.out hb); have Z5 := Lib.hid (ZA.out.below hb); have O5 := Lib.hid ho.reads; clear ho hb)
    | (go_at_call 13; with_reducible refine (dec_ext_ok e ce de w HQ.out.2.symm HRD.out H256.out _ _ O5.out).mono ?_; rintro z w6 ⟨b, rfl, hl, hz, hb⟩; have S6 := Lib.hid (S5.out.below hb); have X6 := Lib.hid (bk_one X5.out hb); have Z6 := Lib.hid (Z5.out.below hb); have Y6 := Lib.hid hz; have HL := Lib.hid hl; have SE6 := run_storeE (e := b) (World.alloc_heap_new w6 (.cells (ec exZero).toArray 30)); clear hl hz hb)
    | fail)
  clear RA SE6
  obtain ⟨yb, hyb⟩ : ∃ b, b = w6.heap.size := ⟨_, rfl⟩
  obtain ⟨WB, hWB⟩ : ∃ V, V = (w6.alloc (.cells (ec exZero).toArray 30)).setRow w6.heap.size (ec b).toArray := ⟨_, rfl⟩
  have hbb : Below w6.heap.size w6 WB := by rw [hWB]; exact (bel_alloc w6 _).trans ⟨rfl, rfl, rfl, by simp, fun k hk => setRow_other _ _ _ _ (by omega)⟩
  have hyb2 : WB.heap[yb]? = some (.cells (ec b).toArray 30 (0, 0)) := by rw [hWB, hyb]; exact setRow_heap _ _ _ _ _ _ (World.alloc_heap_new _ _)
  rw [← hWB, ← hyb]
  have SB := Lib.hid (S6.out.below hbb)
  have LCC := run_loadCG (rangeAt_whole SB.out.ca) rfl
  have LCX := run_loadCG (rangeAt_whole (bk_one X6.out hbb)) rfl
  have SC := Lib.hid (ref_Same1 d 4 c _ _ WB (HRC.out.below SB.out.old) (Z6.out.below hbb) HLC.out.1)
  have YB := Lib.hid hyb2
  have YZ := Lib.hid (Y6.out.below hbb)
  clear hWB hyb hbb hyb2 LEA SA XA ZA EN S5 X5 Z5 O5 S6 X6 Z6 Y6
  go_wp2_with (first
    | (go_at_call 23; with_reducible refine SC.out.mono ?_; rintro z w8 ⟨rfl, hb⟩; have S8 := Lib.hid (SB.out.below hb); have Y8 := Lib.hid (bk_one YB.out hb); have YZ8 := Lib.hid (YZ.out.below hb); have LE8 := run_loadE S8.out.ea; have LY8 := run_loadE Y8.out; clear hb)
    | (go_at_call 15; with_reducible refine (ref_SameExt1 e b ce de 4 _ HL.out.1 HL.out.2.1 HL.out.2.2 (HRD.out.below S8.out.old) YZ8.out HLC.out.2).mono ?_; rintro z w9 ⟨rfl, hb⟩; have S9 := Lib.hid (S8.out.below hb); clear hb)
    | (go_at_call 19; with_reducible refine (law_known _).mono ?_; rintro z w10 ⟨rfl, hb⟩; have S10 := Lib.hid (S9.out.below hb); clear hb)
    | fail)
  exact bodyPost_ret (v := .bool true) (by simp [results, Try.results4, go_sem]) rfl ⟨rfl, S10.out.old⟩
end Go.Proofs.Ytbndegkgpoemnaa
end
