/-
  IsExt of any extrinsic: one contract for all kinds.
-/
import Derived.Test.YtbndegkgpoemnaaIsx
namespace Go.Proofs.Ytbndegkgpoemnaa
open Go.RowKit
set_option linter.unusedVariables false
set_option linter.unusedSimpArgs false

attribute [local go_sem ↓] load_e store_e alloc_e build_e load_v load_c store_h store_v store_c build_h build_v build_c
set_option maxHeartbeats 8000000 in
set_option maxRecDepth 100000 in
theorem code_IsExtN (k who to' n r tr lv : Int) (hk : ¬ (1 ≤ k ∧ k ≤ 11)) (e : Ex) (he : e.hd = [k, who, to', n, r, tr, lv]) (w : World) :
    Calls Try.prog 16 #[.agg (ec e).toArray] w fun x w' => x = .returned (.bool false) ∧ Below w.heap.size w w' := by
  obtain ⟨W, hW⟩ : ∃ W, W = w.alloc (.cells (ec e).toArray 30) := ⟨_, rfl⟩
  have h1 := World.alloc_heap_new w (.cells (ec e).toArray 30)
  rw [← hW] at h1
  have h2 := (Below.heap_alloc W (.cells (ec exZero).toArray 30) w.heap.size (by rw [hW]; simp)).trans h1
  have h3 := World.alloc_heap_new W (.cells (ec exZero).toArray 30)
  have hs : W.heap.size = w.heap.size + 1 := by rw [hW]; simp
  rw [hs] at h3
  have RA := run_allocE
  have LE1 := run_loadE h1
  have LE2 := run_loadE h2
  have LE3 := run_loadE (w := W.drew) h1
  have LE4 := run_loadE (w := (W.alloc (.cells (ec exZero).toArray 30)).drew) h2
  have SE1 := run_storeE (e := e) h3
  have SE2 := run_storeE (w := (W.alloc (.cells (ec exZero).toArray 30)).drew) (e := e) h3
  have P0 := Lib.hid (pairE_new hW (ec exZero).toArray)
  have HE := Lib.hid he
  have g1 : (k == 1) = false := by simp; omega
  have g2 : (k == 2) = false := by simp; omega
  have g3 : (k == 3) = false := by simp; omega
  have g4 : (k == 4) = false := by simp; omega
  have g5 : (k == 5) = false := by simp; omega
  have g6 : (k == 6) = false := by simp; omega
  have g7 : (k == 7) = false := by simp; omega
  have g8 : (k == 8) = false := by simp; omega
  have g9 : (k == 9) = false := by simp; omega
  have g10 : (k == 10) = false := by simp; omega
  have g11 : (k == 11) = false := by simp; omega
  clear he hk
  go_enter Try.func16, Try.ntmps16
  go_upto_region 1 with fail
  rw [← hW]
  clear hW h1 h2 h3
  go_cut [3, 4] (fun p3 p4 wx => p3 = .bool true ∧ ∃ b1, p4 = .pointer (some ⟨b1, 0, none⟩) ∧ PairE w w.heap.size b1 e e wx)
  case first =>
    go_region
    all_goals go_wp2_with fail
    all_goals go_meet
    all_goals exact ⟨rfl, _, rfl, P0.out⟩
  case rest =>
    obtain ⟨rfl, b1, rfl, hp⟩ := hcut
    clear LE1 LE2 LE3 LE4 SE1 SE2 RA P0 hs
    have C0 : wc.cell? ⟨w.heap.size, 0, none⟩ = some (.int .i64 k) := by rw [hp.cell (by omega), HE.out]; rfl
    have HP := Lib.hid hp
    clear hp
    go_wp2_with fail
    exact bodyPost_ret (v := .bool false) (by simp [results, Try.results16, go_sem]) rfl ⟨rfl, HP.out.old⟩
/-- May an extrinsic be, if its call and its vote may or may not? -/
def isX (k who to' n r tr lv : Int) (e : Ex) (cOk vOk : Bool) : Bool :=
  decide (1 ≤ k ∧ k ≤ 11) && (fieldsOk k to' n r tr lv cOk vOk && (decide (0 ≤ who ∧ who < 10) && extEq (exWith (wiped k who to' n r tr lv e) (((wiped k who to' n r tr lv e).hd.set 0 0).set 1 0) (by simp [(wiped k who to' n r tr lv e).h7])) exZero))
theorem code_IsExt (k who to' n r tr lv : Int) (e : Ex) (he : e.hd = [k, who, to', n, r, tr, lv]) (c : Cl) (d : Nat) (w : World) (hrd : RdC w d (.agg #[.int .i64 e.ck, .int .i64 e.ct, .int .i64 e.cn, .slice e.ca e.m e.cc]) c) :
    Calls Try.prog 16 #[.agg (ec e).toArray] w fun x w' => x = .returned (.bool (isX k who to' n r tr lv e (okC 3 c) (voteB e.vote.kind e.vote.aye e.vote.level e.vote.a e.vote.n e.vote.s))) ∧ Below w.heap.size w w' := by
  by_cases hk : 1 ≤ k ∧ k ≤ 11
  · unfold isX
    rw [decide_eq_true hk, Bool.true_and]
    exact code_IsExtK k who to' n r tr lv (by omega) e he _ _ w (fun W hb => code_IsCall d c _ W (hrd.below hb)) (fun W => conv_Is e.vote.kind e.vote.aye e.vote.level e.vote.a e.vote.n e.vote.s W)
  · unfold isX
    rw [decide_eq_false hk, Bool.false_and]
    exact code_IsExtN k who to' n r tr lv hk e he w
end Go.Proofs.Ytbndegkgpoemnaa
