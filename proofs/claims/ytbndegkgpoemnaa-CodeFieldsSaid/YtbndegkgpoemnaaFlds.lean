/-
  What a kind does not name may not be there: the law, walked.
-/
import Derived.Test.YtbndegkgpoemnaaRfC
import Derived.Test.YtbndegkgpoemnaaSiz
import Derived.Test.YtbndegkgpoemnaaKn7
import Derived.Test.YtbndegkgpoemnaaOpE
namespace Go.Proofs.Ytbndegkgpoemnaa
open Go.RowKit
set_option linter.unusedVariables false
set_option linter.unusedSimpArgs false

theorem hd7 (e : Ex) : ∃ k who to' n r tr lv, e.hd = [k, who, to', n, r, tr, lv] := by
  have h := e.h7
  match e.hd, h with
  | [a, b, c, d, f, g, i], _ => exact ⟨a, b, c, d, f, g, i, rfl⟩
def exS (u : Ex) (i x : Nat) : Ex := ⟨u.hd, u.h7, u.sum.set i x, by simp [u.h32], u.vote, u.ck, u.ct, u.cn, u.ca, u.cc, u.m⟩
theorem ec_setS {e : Ex} {i x : Nat} (hi : i < 32) : (ec e).toArray.setIfInBounds (7 + i) (.int .u8 (x : Int)) = (ec (exS e i x)).toArray := by
  have hl : i < e.sum.length := by rw [e.h32]; exact hi
  apply Array.ext'
  simp only [Array.toList_setIfInBounds, ec, exS, Is, Bs]
  rw [List.set_append_right _ _ (by simp [e.h7]), List.set_append_left _ _ (by simp [e.h7]; omega)]
  simp [e.h7, List.map_set]
  rfl
theorem PairE.setS {w : World} {b0 b1 : Nat} {e u : Ex} {W : World} (h : PairE w b0 b1 e u W) {i x : Nat} (hi : i < 32) : PairE w b0 b1 e (exS u i x) (W.setCell ⟨b1, 7 + i, none⟩ (.int .u8 (x : Int))) :=
  ⟨h.old.trans ⟨rfl, rfl, rfl, by simp [World.setCell], fun k hk => heap_setCell_other _ _ _ _ (by show k ≠ b1; have := h.l1; omega)⟩, h.ne, h.l0, h.l1, (heap_setCell_other _ _ _ _ (by show b0 ≠ b1; exact h.ne.symm)).trans h.c0, by rw [← ec_setS hi]; exact heap_setCell_same _ _ _ _ _ _ h.c1⟩
theorem PairE.cellS {w : World} {b0 b1 : Nat} {e u : Ex} {W : World} (h : PairE w b0 b1 e u W) {i : Nat} (hi : i < 32) : W.cell? ⟨b1, 7 + i, none⟩ = some (.int .u8 ((u.sum.getD i 0 : Nat) : Int)) := by
  rw [World.cell?, h.c1]
  have hi2 : i < u.sum.length := by rw [u.h32]; exact hi
  have hi7 : (Is u.hd).length = 7 := by simp [Is, u.h7]
  have e1 : (ec u)[7 + i]? = some (.int .u8 ((u.sum.getD i 0 : Nat) : Int)) := by
    simp only [ec]
    rw [List.getElem?_append_right (by omega), List.getElem?_append_left (by simp [Bs]; omega)]
    simp [Bs, hi7, hi2]
  simpa using e1
theorem PairE.at {w : World} {b : Nat} {e : Ex} {W : World} (h : ExAt w b e W) (hb : w.heap.size ≤ b) (Z : Array Value) :
    PairE w b W.heap.size e e ((W.alloc (.cells Z 30)).setRow W.heap.size (ec e).toArray) := by
  have h2 := World.alloc_heap_new W (.cells Z 30)
  have hlt : b < W.heap.size := (Array.getElem?_eq_some_iff.1 h.c).1
  have h1 := (Below.heap_alloc W (.cells Z 30) b hlt).trans h.c
  have hB : Below w.heap.size w (W.alloc (.cells Z 30)) := h.old.alloc h.old.size _
  exact ⟨hB.trans ⟨rfl, rfl, rfl, by simp, fun k hk => setRow_other _ _ k _ (by have := h.old.size; omega)⟩, by omega, hb, h.old.size, (setRow_other _ _ _ _ (by omega)).trans h1, setRow_heap _ _ _ _ _ _ h2⟩
theorem xor1 (v : Nat) (h : v < 256) : bits .xor .u8 (v : Int) 1 = ((v ^^^ 1 : Nat) : Int) := by
  have k : ∀ v : Fin 256, bits .xor .u8 ((v : Nat) : Int) 1 = (((v : Nat) ^^^ 1 : Nat) : Int) := by decide +kernel
  exact k ⟨v, h⟩
/-- Two with one call. -/
def SameC (e x : Ex) : Prop := x.ck = e.ck ∧ x.ct = e.ct ∧ x.cn = e.cn ∧ x.ca = e.ca ∧ x.m = e.m ∧ x.cc = e.cc
attribute [local go_sem ↓] load_e store_e alloc_e build_e load_c
set_option maxHeartbeats 4000000 in
set_option maxRecDepth 100000 in
theorem codeFields_walk (e : Ex) (c : Cl) (d : Nat) (f n : Int) (w : World) (hrd : RdC w d (.agg #[.int .i64 e.ck, .int .i64 e.ct, .int .i64 e.cn, .slice e.ca e.m e.cc]) c) (hlen : LenC c) (h256 : ∀ b ∈ e.sum, b < 256) :
    Calls Try.prog 7 #[.agg (ec e).toArray, .int .i64 f, .int .i64 n] w fun x w' => x = .returned (.bool true) ∧ Below w.heap.size w w' := by
  obtain ⟨k, who, to', nn, r, tr, lv, he⟩ := hd7 e
  obtain ⟨W, hW⟩ : ∃ W, W = w.alloc (.cells (ec e).toArray 30) := ⟨_, rfl⟩
  obtain ⟨cb, hcb⟩ : ∃ cb, cb = w.heap.size := ⟨_, rfl⟩
  have hA : ExAt w cb e W := by
    rw [hW, hcb]
    exact ⟨(Below.refl _ w).alloc (Nat.le_refl _) _, World.alloc_heap_new _ _⟩
  have hrdW := hrd.below hA.old
  obtain ⟨qa, hqa⟩ : ∃ q, q = isX k who to' nn r tr lv e (okC 3 c) (voteB e.vote.kind e.vote.aye e.vote.level e.vote.a e.vote.n e.vote.s) := ⟨_, rfl⟩
  have hI := fun W' (hb : Below w.heap.size w W') => ref_IsExt k who to' nn r tr lv e he c d W' (hrd.below hb)
  have hJ := fun W' (hb : Below w.heap.size w W') => code_IsExt k who to' nn r tr lv e he c d W' (hrd.below hb)
  rw [← hqa] at hI hJ
  have HSZ := Lib.hid (law_size d c _ W hrdW hlen)
  have HI := Lib.hid hI
  have HJ := Lib.hid hJ
  have HR := Lib.hid hrd
  have H256 := Lib.hid h256
  have A0 := Lib.hid hA
  have LC := run_loadC hA.c
  have HCB := Lib.hid (Nat.le_of_eq hcb.symm)
  clear hI hJ hrdW hqa h256 hA he hrd hlen
  by_cases hok : qa = true ∧ 0 ≤ f ∧ f ≤ 5 ∧ 1 ≤ n ∧ n ≤ 3
  case neg =>
    have h5 : qa = false ∨ (qa = true ∧ f < 0) ∨ (qa = true ∧ ¬ f < 0 ∧ 5 < f) ∨ (qa = true ∧ ¬ f < 0 ∧ ¬ 5 < f ∧ n < 1) ∨ (qa = true ∧ ¬ f < 0 ∧ ¬ 5 < f ∧ ¬ n < 1 ∧ 3 < n) := by
      cases qa
      · exact Or.inl rfl
      · simp at hok ⊢; omega
    clear hok
    go_enter Try.func7, Try.ntmps7
    go_upto_region 1 with fail
    rw [← hW, ← hcb]
    clear hW hcb
    rcases h5 with rfl | ⟨rfl, h1⟩ | ⟨rfl, h1, h2⟩ | ⟨rfl, h1, h2, h3⟩ | ⟨rfl, h1, h2, h3, h4⟩
    all_goals
      go_wp2_with (first
        | (go_at_call 10; refine HSZ.out.mono ?_; rintro x w2 ⟨⟨q, rfl⟩, hb⟩; have A2 := Lib.hid (A0.out.below hb); clear hb; have LE2 := run_loadE A2.out.c; by_cases hq : 300 ≤ q)
        | (go_at_call 17; refine (HI.out _ A2.out.old).mono ?_; rintro x w3 ⟨rfl, hb⟩; have A3 := Lib.hid (A2.out.below hb); clear hb)
        | fail)
      all_goals first
        | exact bodyPost_ret (v := .bool true) (by simp [results, Try.results7, go_sem]) rfl ⟨rfl, A3.out.old⟩
        | exact bodyPost_ret (v := .bool true) (by simp [results, Try.results7, go_sem]) rfl ⟨rfl, A2.out.old⟩
  case pos =>
  obtain ⟨rfl, h1, h2, h3, h4⟩ := hok
  have g1 : ¬ f < 0 := by omega
  have g2 : ¬ 5 < f := by omega
  have g3 : ¬ n < 1 := by omega
  have g4 : ¬ 3 < n := by omega
  clear h1 h2 h3 h4
  go_enter Try.func7, Try.ntmps7
  go_upto_region 1 with fail
  rw [← hW, ← hcb]
  clear hW hcb
  go_cut [32] (fun p wx => ∃ q, p = .bool q ∧ ExAt w cb e wx)
  case first =>
    go_wp2_with (first
      | (go_at_call 10; refine HSZ.out.mono ?_; rintro x w2 ⟨⟨q, rfl⟩, hb⟩; have A2 := Lib.hid (A0.out.below hb); clear hb; have LE2 := run_loadE A2.out.c; by_cases hq : 300 ≤ q)
      | (go_at_call 17; refine (HI.out _ A2.out.old).mono ?_; rintro x w3 ⟨rfl, hb⟩; have A3 := Lib.hid (A2.out.below hb); clear hb)
      | fail)
    all_goals go_meet
    all_goals first
      | exact ⟨_, rfl, A3.out⟩
      | exact ⟨_, rfl, A2.out⟩
  case rest =>
  obtain ⟨q, rfl, hA⟩ := hcut
  clear LC A0 HSZ
  cases q
  case true =>
    go_wp2_with fail
    exact bodyPost_ret (v := .bool true) (by simp [results, Try.results7, go_sem]) rfl ⟨rfl, hA.old⟩
  case false =>
  have LE := run_loadE hA.c
  have SE := run_storeE (e := e) (World.alloc_heap_new wc (.cells (ec exZero).toArray 30))
  have HP := Lib.hid (PairE.at hA HCB.out (ec exZero).toArray)
  clear hA
  have RA := fun v => run_allocE v wc
  go_upto_block 0 with fail
  clear LE SE RA
  obtain ⟨wd, hwd⟩ : ∃ wd, wd = (wc.alloc (.cells (ec exZero).toArray 30)).setRow wc.heap.size (ec e).toArray := ⟨_, rfl⟩
  rw [← hwd] at HP ⊢
  clear hwd
  obtain ⟨xb, hxb⟩ : ∃ xb, xb = wc.heap.size := ⟨_, rfl⟩
  rw [← hxb] at HP ⊢
  clear hxb
  go_cut [34] (fun p wx => ∃ x, SameC e x ∧ PairE w cb xb e x wx)
  case first =>
    have hf : f = 0 ∨ f = 1 ∨ f = 2 ∨ f = 3 ∨ f = 4 ∨ (f = 5 ∧ n = 1) ∨ (f = 5 ∧ n = 2) ∨ (f = 5 ∧ n = 3) := by omega
    have frz := HP.out.frozen
    have s1 := HP.out.cellS (i := 1) (by omega)
    have s2 := HP.out.cellS (i := 2) (by omega)
    have s3 := HP.out.cellS (i := 3) (by omega)
    have hx := fun i (hi : i < 32) => xor1 (e.sum.getD i 0) (H256.out _ (by rw [List.getD_eq_getElem?_getD, List.getElem?_eq_getElem (by rw [e.h32]; exact hi)]; exact List.getElem_mem _))
    have x1 := hx 1 (by omega)
    have x2 := hx 2 (by omega)
    have x3 := hx 3 (by omega)
    clear hx
    obtain ⟨v1, hv1⟩ : ∃ v, v = e.sum.getD 1 0 := ⟨_, rfl⟩
    rw [← hv1] at s1 x1
    obtain ⟨y1, hy1⟩ : ∃ y, y = v1 ^^^ 1 := ⟨_, rfl⟩
    rw [← hy1] at x1
    clear hv1 hy1
    obtain ⟨v2, hv2⟩ : ∃ v, v = e.sum.getD 2 0 := ⟨_, rfl⟩
    rw [← hv2] at s2 x2
    obtain ⟨y2, hy2⟩ : ∃ y, y = v2 ^^^ 1 := ⟨_, rfl⟩
    rw [← hy2] at x2
    clear hv2 hy2
    obtain ⟨v3, hv3⟩ : ∃ v, v = e.sum.getD 3 0 := ⟨_, rfl⟩
    rw [← hv3] at s3 x3
    obtain ⟨y3, hy3⟩ : ∃ y, y = v3 ^^^ 1 := ⟨_, rfl⟩
    rw [← hy3] at x3
    clear hv3 hy3
    have f2 := frz 2
    have f3 := frz 3
    have f4 := frz 4
    have f5 := frz 5
    have f6 := frz 6
    have f8 := frz 8
    have f9 := frz 9
    have f10 := frz 10
    clear frz
    have c2 := HP.out.cell1 (i := 2) (by omega)
    have c3 := HP.out.cell1 (i := 3) (by omega)
    have c4 := HP.out.cell1 (i := 4) (by omega)
    have c5 := HP.out.cell1 (i := 5) (by omega)
    have c6 := HP.out.cell1 (i := 6) (by omega)
    rcases hf with rfl | rfl | rfl | rfl | rfl | ⟨rfl, rfl⟩ | ⟨rfl, rfl⟩ | ⟨rfl, rfl⟩
    all_goals
      go_wp2_with fail
      all_goals go_meet
    · exact ⟨exWith e (e.hd.set 2 n) (by simp [e.h7]), ⟨rfl, rfl, rfl, rfl, rfl, rfl⟩, HP.out.set (by omega)⟩
    · exact ⟨exWith e (e.hd.set 3 n) (by simp [e.h7]), ⟨rfl, rfl, rfl, rfl, rfl, rfl⟩, HP.out.set (by omega)⟩
    · exact ⟨exWith e (e.hd.set 4 n) (by simp [e.h7]), ⟨rfl, rfl, rfl, rfl, rfl, rfl⟩, HP.out.set (by omega)⟩
    · exact ⟨exWith e (e.hd.set 5 n) (by simp [e.h7]), ⟨rfl, rfl, rfl, rfl, rfl, rfl⟩, HP.out.set (by omega)⟩
    · exact ⟨exWith e (e.hd.set 6 n) (by simp [e.h7]), ⟨rfl, rfl, rfl, rfl, rfl, rfl⟩, HP.out.set (by omega)⟩
    · exact ⟨exS e 1 y1, ⟨rfl, rfl, rfl, rfl, rfl, rfl⟩, HP.out.setS (i := 1) (by omega)⟩
    · exact ⟨exS e 2 y2, ⟨rfl, rfl, rfl, rfl, rfl, rfl⟩, HP.out.setS (i := 2) (by omega)⟩
    · exact ⟨exS e 3 y3, ⟨rfl, rfl, rfl, rfl, rfl, rfl⟩, HP.out.setS (i := 3) (by omega)⟩
  case rest =>
  obtain ⟨x, ⟨a1, a2, a3, a4, a5, a6⟩, hp⟩ := hcut
  clear HP
  have HP := Lib.hid hp
  clear hp
  obtain ⟨k2, who2, to2, n2, r2, tr2, lv2, he2⟩ := hd7 x
  have hrx : RdC w d (.agg #[.int .i64 x.ck, .int .i64 x.ct, .int .i64 x.cn, .slice x.ca x.m x.cc]) c := by
    rw [a1, a2, a3, a4, a5, a6]; exact HR.out
  obtain ⟨qx, hqx⟩ : ∃ q, q = isX k2 who2 to2 n2 r2 tr2 lv2 x (okC 3 c) (voteB x.vote.kind x.vote.aye x.vote.level x.vote.a x.vote.n x.vote.s) := ⟨_, rfl⟩
  have hI2 := fun W' (hb : Below w.heap.size w W') => ref_IsExt k2 who2 to2 n2 r2 tr2 lv2 x he2 c d W' (hrx.below hb)
  have hJ2 := fun W' (hb : Below w.heap.size w W') => code_IsExt k2 who2 to2 n2 r2 tr2 lv2 x he2 c d W' (hrx.below hb)
  rw [← hqx] at hI2 hJ2
  have HI2 := Lib.hid hI2
  have HJ2 := Lib.hid hJ2
  clear a1 a2 a3 a4 a5 a6 he2 hrx hI2 hJ2 hqx H256 HI HCB HR
  obtain ⟨ex, hex⟩ : ∃ l, l = (ec x).toArray := ⟨_, rfl⟩
  obtain ⟨ea, hea⟩ : ∃ l, l = (ec e).toArray := ⟨_, rfl⟩
  have LX : ∀ W', PairE w cb xb e x W' → (loadE (.pointer (some ⟨xb, 0, none⟩))).run Try.prog W' = .ok (.agg ex) W' := fun _ h => by rw [hex]; exact run_loadE h.c1
  have LA : ∀ W', PairE w cb xb e x W' → (loadE (.pointer (some ⟨cb, 0, none⟩))).run Try.prog W' = .ok (.agg ea) W' := fun _ h => by rw [hea]; exact run_loadE h.c0
  have LXH := Lib.hid LX
  have LAH := Lib.hid LA
  rw [← hex] at HI2 HJ2
  rw [← hea] at HJ ⊢
  clear LX LA hex hea
  have HKN := Lib.hid (fun W' => law_known W')
  go_upto_region 16 with fail
  cases qx
  all_goals
    go_region_held3 (fun w' => (loadE (.pointer (some ⟨xb, 0, none⟩))).run Try.prog w' = .ok (.agg ex) w' ∧ (loadE (.pointer (some ⟨cb, 0, none⟩))).run Try.prog w' = .ok (.agg ea) w')
      (first | exact ⟨LXH.out _ P4.out, LAH.out _ P4.out⟩ | exact ⟨LXH.out _ P3.out, LAH.out _ P3.out⟩ | exact ⟨LXH.out _ P2.out, LAH.out _ P2.out⟩ | exact ⟨LXH.out _ P1.out, LAH.out _ P1.out⟩ | exact ⟨LXH.out _ HP.out.drew, LAH.out _ HP.out.drew⟩ | exact ⟨LXH.out _ HP.out, LAH.out _ HP.out⟩ | fail)
      (first
        | (go_at_call 16; with_reducible refine (HJ2.out _ HP.out.drew.old).mono ?_; rintro y w1 ⟨rfl, hb⟩; have P1 := Lib.hid (HP.out.drew.below hb); clear hb)
        | (go_at_call 17; with_reducible refine (HI2.out _ P1.out.old).mono ?_; rintro y w2 ⟨rfl, hb⟩; have P2 := Lib.hid (P1.out.below hb); clear hb)
        | (go_at_call 16; with_reducible refine (HJ.out _ P2.out.old).mono ?_; rintro y w3 ⟨rfl, hb⟩; have P3 := Lib.hid (P2.out.below hb); clear hb)
        | (go_at_call 19; with_reducible refine (HKN.out _).mono ?_; rintro y w4 ⟨rfl, hb⟩; have P4 := Lib.hid (P3.out.below hb); clear hb)
        | fail)
    all_goals go_wp2_with fail
    all_goals exact bodyPost_ret (v := .bool true) (by simp [results, Try.results7, go_sem]) rfl ⟨rfl, P4.out.old⟩
end Go.Proofs.Ytbndegkgpoemnaa
