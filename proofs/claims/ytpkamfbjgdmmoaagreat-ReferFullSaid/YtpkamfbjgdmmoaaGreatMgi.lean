/-
  Joined texts.
-/
import Derived.Laws.MakeOwn
import Derived.BigRegion
import Derived.RegionTactic
import Derived.StillTailTactics
import Derived.OrdersHeld
import Derived.Deep.RegionHeld
import Derived.Deep.DeepCutAuto
import Derived.Deep.RegionHeld3
import Derived.Deep.QuietTactic
import Derived.BigQuiet
import Derived.Test.YtpkamfbjgdmmoaaGreatChecked
import Derived.Test.YtpkamfbjgdmmoaaGreatMgh

section
namespace Go.Proofs.YtpkamfbjgdmmoaaGreat
open Go.RowKit Go.Maps
set_option linter.unusedVariables false
set_option linter.unusedSimpArgs false

theorem run_makeV {P : Program} (t e : TypeId) (n s by_ : Nat) (ht : P.underlying t = some (.slice e)) (hi : (P.info? e).map (fun i => (i.size, i.bytes)) = some (s, by_)) (hz : ((P.info? e).bind (·.zero)).isSome = true) (hz2 : ((P.info? e).bind (·.zero)).map (fun z => decide (z.cells.size = s)) = some true) (hb : by_ * n ≤ 1000000) (hn : n ≤ 1000000) :
    ∃ C : Array Value, C.size = n * s ∧ ∀ w : World, (Instr.makeSlice t (.int .i64 (n : Int)) (.int .i64 (n : Int))).run P w = .ok (.slice (some ⟨w.heap.size, 0, none⟩) n n) (w.alloc (.cells C e)) := by
  obtain ⟨i, hi0, hi1⟩ := Option.map_eq_some_iff.1 hi
  simp only [Prod.mk.injEq] at hi1
  obtain ⟨z, hz0⟩ := Option.isSome_iff_exists.1 hz
  rw [hi0] at hz0
  have hz1 : i.zero = some z := by simpa using hz0
  refine ⟨madeCells z.cells (n * i.size), by simp [madeCells, hi1.1], fun w => ?_⟩
  have hbb : (i.bytes : Int) * (n : Int) ≤ 281474976710656 := by
    rw [hi1.2]
    have : ((by_ * n : Nat) : Int) ≤ 281474976710656 := by omega
    rwa [Int.natCast_mul] at this
  have := run_make (P := P) w t e i z ht hi0 hz1 .i64 .i64 n n (by omega) (by omega) hbb (by omega)
  simpa using this
set_option maxRecDepth 100000 in
set_option maxHeartbeats 4000000 in
theorem ref11_New (w : World) : Calls Tryz.prog 34 #[] w fun e w' => ∃ p, e = .returned (.pointer p) ∧ Below w.heap.size w w' := by
  obtain ⟨C1, -, h1⟩ := run_makeV (P := Tryz.prog) 166 303 12 7 56 Tryz.underlying166 (by kernel_rfl) (by kernel_rfl) (by kernel_rfl) (by decide) (by decide)
  obtain ⟨C2, -, h2⟩ := run_makeV (P := Tryz.prog) 167 306 40 9 88 Tryz.underlying167 (by kernel_rfl) (by kernel_rfl) (by kernel_rfl) (by decide) (by decide)
  have h1' : ∀ w : World, (Instr.makeSlice 166 (.int .i64 12) (.int .i64 12)).run Tryz.prog w = .ok (.slice (some ⟨w.heap.size, 0, none⟩) 12 12) (w.alloc (.cells C1 303)) := h1
  have h2' : ∀ w : World, (Instr.makeSlice 167 (.int .i64 40) (.int .i64 40)).run Tryz.prog w = .ok (.slice (some ⟨w.heap.size, 0, none⟩) 40 40) (w.alloc (.cells C2 306)) := h2
  clear h1 h2
  go_enter Tryz.func34, Tryz.ntmps34
  go_upto_region 1 with fail
  go_region
  all_goals go_wp2_with fail
  all_goals go_ret
  all_goals exact ⟨_, rfl, (((((Below.refl _ w).drew).alloc (by show w.heap.size ≤ w.heap.size; omega) _).alloc (by rw [World.size_alloc]; show w.heap.size ≤ w.heap.size + 1; omega) _).alloc (by rw [World.size_alloc, World.size_alloc]; show w.heap.size ≤ w.heap.size + 1 + 1; omega) _)⟩
/-- The document's ledger, as far as it is looked at: ten accounts of something. -/
structure R6 (w0 : World) (lb ab : Nat) (w : World) : Prop where
  l : w.heap[lb]? = some (.cells #[.slice (some ⟨ab, 0, none⟩) 10 10] 157 (0, 0))
  a : ∃ C, w.heap[ab]? = some (.cells C 160 (0, 0)) ∧ C.size = 30
  ll : w0.heap.size ≤ lb
  la : w0.heap.size ≤ ab
  ne : lb ≠ ab
  old : Below w0.heap.size w0 w
theorem R6.below {w0 w w' : World} {lb ab : Nat} (h : R6 w0 lb ab w) (hb : Below w.heap.size w w') : R6 w0 lb ab w' := by
  obtain ⟨C, h1, h2⟩ := h.a
  exact ⟨(hb.block lb (Array.getElem?_eq_some_iff.1 h.l).1).trans h.l, ⟨C, (hb.block ab (Array.getElem?_eq_some_iff.1 h1).1).trans h1, h2⟩, h.ll, h.la, h.ne, h.old.trans (hb.mono h.old.size)⟩
theorem R6.set {w0 w : World} {lb ab i : Nat} {v : Value} (h : R6 w0 lb ab w) : R6 w0 lb ab (w.setCell ⟨ab, i, none⟩ v) := by
  obtain ⟨C, h1, h2⟩ := h.a
  refine ⟨(Below.heap_setCell _ _ _ lb h.ne).trans h.l, ⟨C.setIfInBounds i v, ?_, by simp [h2]⟩, h.ll, h.la, h.ne, h.old.trans ⟨rfl, rfl, rfl, by simp [World.setCell], fun k hk => Below.heap_setCell _ _ _ k ?_⟩⟩
  · simp [World.setCell, Array.getElem?_modify, h1]
  · have := h.la; show k ≠ ab; omega
theorem R6.drew {w0 w : World} {lb ab : Nat} (h : R6 w0 lb ab w) : R6 w0 lb ab w.drew := h.below (Below.refl _ w).drew
set_option maxRecDepth 100000 in
set_option maxHeartbeats 4000000 in
theorem ref6_New (v : Value) (l : List Int) (w : World) (hr : RdI w v l) (hl : l.length ≤ 10) : Calls Tryz.prog 31 #[v] w fun e w' => ∃ p c, e = .returned (.tuple #[.pointer p, .int .i64 c]) ∧ Below w.heap.size w w' := by
  obtain ⟨C, hC, h1⟩ := run_makeV (P := Tryz.prog) 155 160 10 3 40 Tryz.underlying155 (by kernel_rfl) (by kernel_rfl) (by kernel_rfl) (by decide) (by decide)
  have h1' : ∀ w : World, (Instr.makeSlice 155 (.int .i64 10) (.int .i64 10)).run Tryz.prog w = .ok (.slice (some ⟨w.heap.size, 0, none⟩) 10 10) (w.alloc (.cells C 160)) := h1
  clear h1
  obtain ⟨ao, cap, rfl⟩ := hr.lenOf
  obtain ⟨L, hL⟩ : ∃ L, L = l.length := ⟨_, rfl⟩
  rw [← hL] at hr hl ⊢
  have HR := Lib.hid (And.intro hr hL)
  clear hr hL
  have c0 : ¬ (10 : Int) < (L : Int) := by omega
  obtain ⟨W0, hW0⟩ : ∃ W0, W0 = (w.alloc (.cells C 160)).alloc (.cells #[.slice (some ⟨w.heap.size, 0, none⟩) 10 10] 157) := ⟨_, rfl⟩
  obtain ⟨ab, hab⟩ : ∃ ab, ab = w.heap.size := ⟨_, rfl⟩
  obtain ⟨lb, hlb⟩ : ∃ lb, lb = ab + 1 := ⟨_, rfl⟩
  have h6 : R6 w lb ab W0 := by
    refine ⟨?_, ⟨C, ?_, hC⟩, by omega, by omega, by omega, by rw [hW0]; exact ((Below.refl _ w).alloc (Nat.le_refl _) _).alloc (by simp) _⟩
    · have := World.alloc_heap_new (w.alloc (.cells C 160)) (.cells #[.slice (some ⟨w.heap.size, 0, none⟩) 10 10] 157)
      rw [World.size_alloc] at this
      rw [hW0, hlb, hab]; exact this
    · rw [hW0, hab]; exact (Below.heap_alloc _ _ _ (by simp)).trans (World.alloc_heap_new w _)
  have H6 := Lib.hid h6
  have HW0 := Lib.hid (And.intro hW0 (And.intro hab hlb))
  clear hW0 h6 hC hab hlb
  go_enter Tryz.func31, Tryz.ntmps31
  go_upto_region 4 with fail
  rw [← HW0.out.1, ← HW0.out.2.1, ← HW0.out.2.2]
  go_wp2_with fail
  go_loopw [5, 6] (fun z i wr => ∃ (k : Nat) (zz : Int), k ≤ L ∧ z = .int .i64 zz ∧ i = .int .i64 k ∧ R6 w lb ab wr) (fun _ i _ => L - (intOf i).toNat)
  case atStart => exact ⟨0, 0, by omega, rfl, rfl, H6.out⟩
  case round =>
    obtain ⟨k, zz, hk, rfl, rfl, h6⟩ := hrel
    by_cases hlt : k < L
    · have hlt' : (k : Int) < L := by omega
      obtain ⟨a, rfl, ca⟩ := (HR.out.1.below h6.old).at (show k < l.length by rw [← HR.out.2]; exact hlt)
      obtain ⟨x, hx⟩ : ∃ x, x = l.getD k 0 := ⟨_, rfl⟩
      have hca : ∀ W, Below w.heap.size w W → W.cell? (a.add k) = some (.int .i64 x) := fun W hW => by
        obtain ⟨a', hv, ca'⟩ := (HR.out.1.below hW).at (show k < l.length by rw [← HR.out.2]; exact hlt)
        injection hv with hv
        subst hv
        rw [hx]; exact ca'
      have HCA := Lib.hid hca
      clear hca
      rw [← hx] at ca
      have h6k := h6
      obtain ⟨C6, ha6, hs6⟩ := h6.a
      have cl : wr.cell? ⟨lb, 0, none⟩ = some (.slice (some ⟨ab, 0, none⟩) 10 10) := by rw [World.cell?, h6.l]; rfl
      have hk10 : (k : Int) < 10 := by omega
      have hk3 : k * 3 < C6.size := by omega
      have cc : ∃ v0, wr.cell? ⟨ab, k * 3, none⟩ = some v0 := ⟨C6[k * 3], by rw [World.cell?, ha6]; simp [hk3]⟩
      obtain ⟨v0, cc⟩ := cc
      have cf : wr.frozen? ⟨ab, k * 3, none⟩ = false := by simp [World.frozen?, ha6]
      have HX := Lib.hid h6k
      clear h6 h6k ha6 hs6 hk3 hx
      by_cases hb : x < 0
      · go_wp2_with fail
        exact bodyPost_ret (v := .tuple #[.pointer none, .int .i64 1]) (by simp [results, Tryz.results31, go_sem]) rfl (by first | exact ⟨_, _, rfl, HX.out.old⟩ | exact ⟨⟨_, _, rfl⟩, HX.out.old⟩)
      · by_cases hb2 : 1073741824 < x
        · go_wp2_with fail
          exact bodyPost_ret (v := .tuple #[.pointer none, .int .i64 1]) (by simp [results, Tryz.results31, go_sem]) rfl (by first | exact ⟨_, _, rfl, HX.out.old⟩ | exact ⟨⟨_, _, rfl⟩, HX.out.old⟩)
        · go_upto_region 10 with fail
          go_still_tail 11, (by kernel_rfl)
          change wpList _ _ _ _ _ wr.drew
          have hs := HX.out.drew.set (i := k * 3) (v := .int .i64 x)
          have ca2 := HCA.out _ hs.old
          have ca3 := HCA.out _ (HX.out.set (i := k * 3) (v := .int .i64 x)).old
          have ca4 := HCA.out _ (HX.out.set (i := k * 3) (v := .int .i64 x)).drew.old
          have HS2 := Lib.hid (HX.out.set (i := k * 3) (v := .int .i64 x)).drew
          have HS := Lib.hid hs
          clear hs
          go_wp2_with fail
          go_roundw
          case rel => exact ⟨k + 1, _, by omega, rfl, by go_num, HS2.out⟩
          case measure => simp [intOf]; omega
    · have hge : ¬ (k : Int) < L := by omega
      by_cases hz : 1073741824 < zz
      · go_wp2_with fail
        exact bodyPost_ret (v := .tuple #[.pointer none, .int .i64 1]) (by simp [results, Tryz.results31, go_sem]) rfl (by first | exact ⟨_, _, rfl, h6.old⟩ | exact ⟨⟨_, _, rfl⟩, h6.old⟩)
      · go_wp2_with fail
        exact bodyPost_ret (v := .tuple #[.pointer (some ⟨lb, 0, none⟩), .int .i64 0]) (by simp [results, Tryz.results31, go_sem]) rfl (by first | exact ⟨_, _, rfl, h6.old⟩ | exact ⟨⟨_, _, rfl⟩, h6.old⟩)
theorem ref10_IsR (t : Trk) (w : World) : Calls Tryz.prog 81 #[.agg (trkR.f t).toArray] w fun e w' => e = .returned (.bool (trackB t)) ∧ Below w.heap.size w w' := ref10_Is t w
set_option maxRecDepth 100000 in
set_option maxHeartbeats 4000000 in
theorem ref12_New {ts : List Trk} {w : World} {b cap : Nat} (hr : w.rangeAt b 0 (trkR.all ts)) (hb : b < w.heap.size) (hc : ts.length ≤ cap) (hl : ts.length ≤ 100) :
    Calls Tryz.prog 33 #[.slice (some ⟨b, 0, none⟩) ts.length cap] w fun e w' => Below w.heap.size w w' ∧ ((newB ts = true ∧ ∃ r, e = .returned (.tuple #[.pointer (some ⟨r, 0, none⟩), .int .i64 0])) ∨ (newB ts = false ∧ e = .returned (.tuple #[.pointer none, .int .i64 1]))) := by
  obtain ⟨n, hn⟩ : ∃ n, n = ts.length := ⟨_, rfl⟩
  rw [← hn] at hc hl ⊢
  have HR := Lib.hid (And.intro hr (And.intro hb (And.intro hc hn)))
  clear hr hb hc
  by_cases hl1 : n < 1
  · have hnb : newB ts = false := by unfold newB; rw [← hn, decide_eq_false (by omega)]; rfl
    have hi1 : (n : Int) < 1 := by omega
    have HNB := Lib.hid hnb
    clear hl1 hn hnb
    go_enter Tryz.func33, Tryz.ntmps33
    go_wp2_with fail
    exact bodyPost_ret (v := .tuple #[.pointer none, .int .i64 1]) (by simp [results, Tryz.results33, go_sem]) rfl ⟨Below.refl _ _, .inr ⟨HNB.out, rfl⟩⟩
  by_cases hl4 : 4 < n
  · have hnb : newB ts = false := by unfold newB; rw [← hn, decide_eq_false (by omega)]; rfl
    have hi1 : ¬ (n : Int) < 1 := by omega
    have hi2 : (4 : Int) < n := by omega
    have HNB := Lib.hid hnb
    clear hl1 hl4 hn hnb
    go_enter Tryz.func33, Tryz.ntmps33
    go_wp2_with fail
    exact bodyPost_ret (v := .tuple #[.pointer none, .int .i64 1]) (by simp [results, Tryz.results33, go_sem]) rfl ⟨Below.refl _ _, .inr ⟨HNB.out, rfl⟩⟩
  have hlen : 1 ≤ n ∧ n ≤ 4 := by omega
  have hi1 : ¬ (n : Int) < 1 := by omega
  have hi2 : ¬ (4 : Int) < n := by omega
  have hn4 : n ≤ 4 := hlen.2
  have HLN := Lib.hid (And.intro hlen hn)
  clear hlen hn hl1 hl4
  go_enter Tryz.func33, Tryz.ntmps33
  go_wp2_with fail
  go_loopw [4] (fun i wr => ∃ k : Nat, k ≤ n ∧ i = .int .i64 k ∧ (ts.take k).all trackB = true ∧ Below w.heap.size w wr) (fun i _ => n - (intOf i).toNat)
  case atStart => exact ⟨0, by omega, rfl, by simp, Below.refl _ _⟩
  case round =>
    obtain ⟨k, hk, rfl, hall, hbl⟩ := hrel
    by_cases hlt : k < n
    · have hlt' : (k : Int) < n := by omega
      have hkl : k < ts.length := by rw [← HLN.out.2]; exact hlt
      have hrk : wr.rangeAt b (k * 18) (trkR.f ts[k]) := fun j u hj => by
        have hj18 : j < 18 := by have := (List.getElem?_eq_some_iff.1 hj).1; rwa [trkR.len] at this
        have := rangeAt_block HR.out.1 (hbl.block b HR.out.2.1) (k * 18 + j) u (by rw [show k * 18 + j = k * trkR.k + j from rfl, trkR.all_at hkl hj18]; exact hj)
        rwa [Nat.zero_add] at this
      have hts : (ts.take (k + 1)).all trackB = ((ts.take k).all trackB && trackB ts[k]) := by rw [List.take_succ_eq_append_getElem hkl, List.all_append]; simp
      have hna : trackB ts[k] = false → ts.all trackB = false := fun h => by
        rw [Bool.eq_false_iff]
        intro hall
        rw [List.all_eq_true] at hall
        rw [hall _ (List.getElem_mem hkl)] at h
        cases h
      obtain ⟨t, ht⟩ : ∃ t, t = ts[k] := ⟨_, rfl⟩
      rw [← ht] at hrk hts hna
      have his := ref10_IsR t wr
      obtain ⟨q, hq⟩ : ∃ q, q = trackB t := ⟨_, rfl⟩
      rw [← hq] at his hts hna
      have HRK := Lib.hid hrk
      have HA := Lib.hid (And.intro hall (And.intro hts hna))
      have HB := Lib.hid hbl
      have HIS := Lib.hid his
      clear hrk hts hna ht his hq hall hbl hkl
      cases q
      · go_wp2_with (first
          | (refine wpl_loadR (r := trkR) (t := t) (b := b) (k := k * 18) _ rfl rfl rfl HRK.out ?_)
          | (go_at_call 81; refine HIS.out.mono ?_; rintro e w2 ⟨rfl, hb⟩; have H2 := Lib.hid hb; clear hb)
          | fail)
        exact bodyPost_ret (v := .tuple #[.pointer none, .int .i64 1]) (by simp [results, Tryz.results33, go_sem]) rfl ⟨HB.out.trans (H2.out.mono HB.out.size), .inr ⟨by unfold newB; rw [HA.out.2.2 (by first | rfl | trivial), Bool.and_false], rfl⟩⟩
      · go_wp2_with (first
          | (refine wpl_loadR (r := trkR) (t := t) (b := b) (k := k * 18) _ rfl rfl rfl HRK.out ?_)
          | (go_at_call 81; refine HIS.out.mono ?_; rintro e w2 ⟨rfl, hb⟩; have H2 := Lib.hid hb; clear hb)
          | fail)
        go_roundw
        case rel => exact ⟨k + 1, by omega, by go_num, by rw [HA.out.2.1, HA.out.1]; rfl, HB.out.trans (H2.out.mono HB.out.size)⟩
        case measure => simp [intOf]; omega
    · have hge : ¬ (k : Int) < n := by omega
      have hkn : k = n := by omega
      subst hkn
      have hfull : ts.all trackB = true := by rw [HLN.out.2, List.take_length] at hall; exact hall
      have hrd : RdR trkR wr (.slice (some ⟨b, 0, none⟩) k cap) ts := by rw [HLN.out.2]; exact .inr ⟨b, 0, cap, rfl, by rw [← HLN.out.2]; exact HR.out.2.2.1, Nat.lt_of_lt_of_le HR.out.2.1 hbl.size, rangeAt_block HR.out.1 (hbl.block b HR.out.2.1)⟩
      have hown : OwnR trkR wr.heap.size (.slice (some ⟨wr.heap.size, 0, none⟩) 0 0) [] (wr.alloc (.cells #[] 26)) := OwnR.none (r := trkR) (World.alloc_heap_new wr _) (Nat.le_refl _)
      have hnb : newB ts = true := by unfold newB; rw [hfull, ← HLN.out.2, decide_eq_true HLN.out.1]; rfl
      have HRD := Lib.hid (hrd.below ((Below.refl _ wr).alloc (Nat.le_refl _) (.cells #[] 26)))
      have HO := Lib.hid hown
      have HBL := Lib.hid hbl
      have HNB := Lib.hid hnb
      clear hall hbl hfull hnb hk hlt hrd hown
      go_wp2_with (first
        | (refine wpl_noneR (r := trkR) rfl rfl ?_)
        | (refine wpl_appsR (r := trkR) (u := .slice (some ⟨b, 0, none⟩) k cap) (v := .slice (some ⟨wr.heap.size, 0, none⟩) 0 0) (xs := []) (ys := ts) rfl rfl rfl rfl HO.out HRD.out (by have := HLN.out; simp; omega) (by simp) ?_; intro v1 w1 ho hg hat; have H1 := Lib.hid (And.intro ho (And.intro hg hat)); obtain ⟨o1, n1, c1, rfl⟩ : ∃ o n c, v1 = .slice o n c := (by { obtain ⟨a, c, e⟩ := ho.lenOf; exact ⟨a, _, c, e⟩ }); clear ho hg hat)
        | fail)
      have hb1 : Below wr.heap.size wr w1 := Below.grown ((Below.refl _ wr).alloc (Nat.le_refl _) _) H1.out.2.1 (by simp) (fun j hj => by have hj' : some wr.heap.size = some j := hj; injection hj' with hj'; omega)
      have hb2 := HBL.out.trans (hb1.mono HBL.out.size)
      exact bodyPost_ret (v := .tuple #[.pointer (some ⟨w1.heap.size, 0, none⟩), .int .i64 0]) (by simp [results, Tryz.results33, go_sem]) rfl ⟨hb2.alloc hb2.size _, .inl ⟨HNB.out, _, rfl⟩⟩
end Go.Proofs.YtpkamfbjgdmmoaaGreat
end

section
namespace Go.Proofs.YtpkamfbjgdmmoaaGreat
open Go.RowKit Go.Maps Go.Shelf
attribute [local go_sem] Oper.semAt_some
set_option linter.unusedVariables false
set_option linter.unusedSimpArgs false

theorem IterF.iterI {P : Program} {α : Type} {n gf : Nat} {lb : Array Value} {encs : α → Array Value} {xs : List α} {G : FP} {w : World} (h : IterF P n gf lb encs xs G w) : Iter P n gf lb encs xs G w :=
  fun l B Ψ J Jx Φ0 W hg hG hΨ hΦ hJ hJx hr h0 => h l B Ψ J Jx Φ0 W hg hG (fun k hk => (hΨ k hk).1) hJ hJx hr h0
/-- Locks of any ledger whose row is told. -/
theorem locks_ofV (l : Value) (a : Int) (xs : List (Int × Int)) (hlen : xs.length ≤ 1000000) (w : World) (hrow : Calls Tryz.prog 114 #[l, .int .i64 a] w fun e w'' => ∃ f, e = .returned f ∧ Way Tryz.prog encs_I f xs w'' ∧ Below w.heap.size w w'') :
    Calls Tryz.prog 91 #[l, .int .i64 a] w fun e w' => ∃ bx v, e = .returned (.func (.func 132) #[] #[.pointer (some ⟨bx, 0, none⟩)]) ∧ Boxed w' bx 235 v ∧ OwnR pair_I (bx + 1) v xs w' ∧ w.heap.size ≤ bx ∧ Below w.heap.size w w' := by
  have HROW := Lib.hid hrow
  clear hrow
  go_enter Tryz.func91, Tryz.ntmps91
  go_wp2_with (first
    | (go_at_call 114; refine HROW.out.mono ?_; rintro e w1 ⟨f, rfl, hway, hb⟩; obtain ⟨gf, lb, rfl, hit⟩ := hway; have H1 := Lib.hid (And.intro hit hb); clear hit hb)
    | (go_at_call 113; refine (still_Now_I gf lb xs w1 H1.out.1.1 (H1.out.1.2 0).iterI hlen).mono ?_; rintro e w2 ⟨v, rfl, hbx, ho, hb⟩; have H2 := Lib.hid (And.intro hbx (And.intro ho hb)); clear hbx ho hb)
    | fail)
  go_ret
  exact ⟨_, v, rfl, H2.out.1, H2.out.2.1, H1.out.2.size, H1.out.2.trans (H2.out.2.2.mono H1.out.2.size)⟩
theorem ledger_LocksX {g N : Nat} {A : Acc} {M : Cls Int} {FL : FP} {w : World} (h : LdX g N A M FL w) {a : Int} (ha : (Lit.int .i64 a).wf = true) :
    Calls Tryz.prog 91 #[.pointer (some ⟨g, 0, none⟩), .int .i64 a] w fun e w' => ∃ bx v, e = .returned (.func (.func 132) #[] #[.pointer (some ⟨bx, 0, none⟩)]) ∧ Boxed w' bx 235 v ∧ OwnR pair_I (bx + 1) v (rowOf M a) w' ∧ w.heap.size ≤ bx ∧ Below w.heap.size w w' := by
  obtain ⟨gl, h0⟩ := h.at
  exact locks_ofV _ a _ (Nat.le_trans (row_length M a) (by have := h0.len; omega)) w (ledger_row h0 ha)
/-- A lock that is great enough. -/
def enough (t n : Int) (x : Int × Int) : Prop := x.1 = t ∧ n ≤ x.2
instance (t n : Int) (x : Int × Int) : Decidable (enough t n x) := by unfold enough; infer_instance
/-- Locks, one raised. -/
def raiseM (M : Cls Int) (a t n : Int) : Cls Int := if ∃ x ∈ rowOf M a, enough t n x then M else lockM M a t n
/-- What raise's range holds. -/
def RsI (N0 tb nb : Nat) (t n : Int) (pre : List (Int × Int)) (Φ : FP) (W : World) : Prop := (∀ k, ¬ Φ k) ∧ Boxed W tb 3 (.int .i64 t) ∧ Boxed W nb 3 (.int .i64 n) ∧ (∀ x ∈ pre, ¬ enough t n x) ∧ N0 ≤ W.heap.size
theorem RsI.stab {N0 tb nb : Nat} {t n : Int} (h1 : tb < N0) (h2 : nb < N0) : Stab N0 (RsI N0 tb nb t n) := by
  rintro pre Φ W ⟨h0, h3, h4, h5, hs⟩
  exact ⟨fun k hk => (h0 k hk).elim, hs, fun W' hg hk => ⟨h0, (hk tb (.inl h1)).trans h3, (hk nb (.inl h2)).trans h4, h5, Nat.le_trans hs hg.size⟩⟩
def RsX (N0 : Nat) (t n : Int) (c : Code) (pre : List (Int × Int)) (Φ : FP) (W : World) : Prop := (∀ k, ¬ Φ k) ∧ c = .ret ∧ (∃ x ∈ pre, enough t n x) ∧ N0 ≤ W.heap.size
theorem RsX.stab {N0 : Nat} {t n : Int} (c : Code) : Stab N0 (RsX N0 t n c) := by
  rintro pre Φ W ⟨h0, h3, h5, hs⟩
  exact ⟨fun k hk => (h0 k hk).elim, hs, fun W' hg hk => ⟨h0, h3, h5, Nat.le_trans hs hg.size⟩⟩
set_option maxHeartbeats 4000000 in
set_option maxRecDepth 100000 in
theorem raise_X {g N : Nat} {A : Acc} {M : Cls Int} {FL : FP} {w : World} (h : LdX g N A M FL w) (hlen : M.length < 10000) {a t : Int} (hac : isAcc a) (ha : (Lit.int .i64 a).wf = true) (ht : (Lit.int .i64 t).wf = true) (n : Int) :
    Calls Tryz.prog 55 #[.pointer (some ⟨g, 0, none⟩), .int .i64 a, .int .i64 t, .int .i64 n] w fun e w' => e = .returned (.tuple #[]) ∧ LdTo g N A (raiseM M a t n) FL w w' := by
  obtain ⟨tb, htb⟩ : ∃ tb, tb = w.heap.size := ⟨_, rfl⟩
  obtain ⟨w1, hw1⟩ : ∃ w1, w1 = (w.alloc (.cells #[.int .i64 t] 3)).alloc (.cells #[.int .i64 n] 3) := ⟨_, rfl⟩
  have hb1 : Below w.heap.size w w1 := by rw [hw1]; exact ((Below.refl _ w).alloc (Nat.le_refl _) _).alloc (by simp) _
  have x0 : Boxed w1 w.heap.size 3 (.int .i64 t) := by rw [hw1]; exact (Boxed.new w _ _).alloc _
  have x1 : Boxed w1 (w.heap.size + 1) 3 (.int .i64 n) := by
    have := Boxed.new (w.alloc (.cells #[.int .i64 t] 3)) 3 (.int .i64 n)
    rw [World.size_alloc] at this
    rw [hw1]; exact this
  have hs1 : w1.heap.size = w.heap.size + 2 := by rw [hw1]; simp
  have hlk := ledger_LocksX (h.below hb1) ha
  refine (callsIn_wide (n := 2)).1 ?_
  refine callsIn_of_wp_marks Tryz.func55 rfl trivial ?_ rfl
  simp only [Tryz.ntmps55, List.size_toArray, List.length_cons, List.length_nil, Nat.reduceAdd, Nat.reduceSub, Array.replicate_succ, Array.replicate_zero, List.push_toArray, List.append_toArray, List.nil_append, List.cons_append]
  have HW1 := Lib.hid hw1
  have H1 := Lib.hid (And.intro hb1 (And.intro x0 (And.intro x1 hs1)))
  have HLK := Lib.hid hlk
  have HH := Lib.hid (And.intro h (And.intro hlen (And.intro hac (And.intro ha ht))))
  clear hw1 hb1 x0 x1 hs1 hlk h hlen hac ha ht
  gi_wp2_with (first
    | (refine ⟨trivial, ?_⟩; gi_at_call 91; rw [← HW1.out]; refine (callsIn_wide.2 HLK.out).mono ?_; rintro e w2 ⟨bx, v, rfl, hbx, ho, hn, hb⟩; have H2 := Lib.hid (And.intro hbx (And.intro ho (And.intro hn hb))); clear hbx ho hn hb)
    | fail)
  obtain ⟨hb1, x0, x1, hs1⟩ := H1.out
  obtain ⟨hbx, ho, hn, hb2⟩ := H2.out
  rw [← htb] at x0 x1 ⊢
  obtain ⟨nb, hnb⟩ : ∃ nb, nb = tb + 1 := ⟨_, rfl⟩
  rw [← hnb] at x1 ⊢
  have y0 : Boxed w2 tb 3 (.int .i64 t) := (hb2.block tb (by omega)).trans x0
  have y1 : Boxed w2 nb 3 (.int .i64 n) := (hb2.block nb (by omega)).trans x1
  have s2 := hb2.size
  have hit := now1_iter_I 0 bx v (rowOf M a) w2 hbx ho.reads (Nat.le_trans (row_length M a) (by have := HH.out.2.1; omega)) (fun k => k = bx ∨ v.ownBlock = some k) (.inl rfl) (fun k hk => .inr hk)
  have hGl : ∀ k, (k = bx ∨ v.ownBlock = some k) → k < w2.heap.size := fun k hk => hk.elim (fun e => by rw [e]; exact hbx.lt) (fun e => (ho.block e).2)
  have hbW : Below w.heap.size w w2 := hb1.trans (hb2.mono hb1.size)
  have htl : tb < w2.heap.size := by omega
  have hnl : nb < w2.heap.size := by omega
  have hwl : w.heap.size ≤ w2.heap.size := hbW.size
  have HBW := Lib.hid (And.intro hbW (And.intro htb hnb))
  clear hb1 x0 x1 hs1 hbx ho hn hb2 hbW htb hnb s2
  refine range_outer (n := 0) (gf := 132) (lb := #[.pointer (some ⟨bx, 0, none⟩)]) rfl enters_now_I hit (Grow.refl w2) (fun k hk => ⟨hGl k hk, rfl⟩) (fun _ => rfl)
    (fun k => False) (fun k hk => hk.elim) (RsI w2.heap.size tb nb t n) (RsX w2.heap.size t n) (RsI.stab htl hnl) RsX.stab ⟨fun _ h => h, y0, y1, (fun x hx => by cases hx), Nat.le_refl _⟩
    (fun x => { tmps := #[.pointer (some ⟨g, 0, none⟩), .int .i64 a, .int .i64 t, .int .i64 n, undef, undef, .pointer (some ⟨tb, 0, none⟩), .pointer (some ⟨nb, 0, none⟩), .int .i64 x.1, .int .i64 x.2, .pointer (some ⟨g, 0, none⟩), .int .i64 a, .func (.func 132) #[] #[.pointer (some ⟨bx, 0, none⟩)], .int .i64 x.1, .int .i64 x.2, undef, undef, undef, undef, undef, undef, undef, undef, undef, undef, undef, undef, undef], defers := [] }) ?assign ?body ?done ?stop
  case assign =>
    intro l x W K hK
    simp only [encs_I]
    gi_wp2
    exact hK
  case body =>
    rintro l pre x Φ W hpx ⟨hno, b0, b1, hpre, hsz⟩ hl hΦ -
    have c0 := b0.cell
    have c1 := b1.cell
    obtain ⟨i, hi⟩ : ∃ i, i = x.1 := ⟨_, rfl⟩
    obtain ⟨m, hm⟩ : ∃ m, m = x.2 := ⟨_, rfl⟩
    have hen : enough t n x ↔ i = t ∧ n ≤ m := by rw [hi, hm]; exact Iff.rfl
    rw [← hi, ← hm]
    have HS := Lib.hid (And.intro hno (And.intro b0 (And.intro b1 (And.intro hpre (And.intro hsz hen)))))
    clear hi hm hno b0 b1 hpre hsz hen hit hGl hpx y0 y1
    by_cases q1 : i = t
    · have q1' : (i == t) = true := by simpa using q1
      by_cases q2 : n ≤ m
      · have HQ := Lib.hid (And.intro q1 q2)
        clear q1
        gi_wp2_with fail
        obtain ⟨hno, b0, b1, hpre, hsz, hen⟩ := HS.out
        exact ⟨Φ, fun k h => .inl h, Only.refl _ _ _, hno, rfl, ⟨x, by simp, hen.2 HQ.out⟩, hsz⟩
      · have q2' : ¬ (m ≥ n) := q2
        have HQ := Lib.hid q2
        clear q1
        gi_wp2_with fail
        obtain ⟨hno, b0, b1, hpre, hsz, hen⟩ := HS.out
        exact ⟨Φ, fun k h => .inl h, Only.refl _ _ _, hno, b0, b1, fun y hy => (List.mem_append.1 hy).elim (hpre y) (fun hy => by rw [List.mem_singleton.1 hy, hen]; exact fun h => absurd h.2 (by have := HQ.out; omega)), hsz⟩
    · have q1' : (i == t) = false := by simpa using q1
      have HQ := Lib.hid q1
      clear q1
      gi_wp2_with fail
      obtain ⟨hno, b0, b1, hpre, hsz, hen⟩ := HS.out
      exact ⟨Φ, fun k h => .inl h, Only.refl _ _ _, hno, b0, b1, fun y hy => (List.mem_append.1 hy).elim (hpre y) (fun hy => by rw [List.mem_singleton.1 hy, hen]; exact fun h => HQ.out h.1), hsz⟩
  case done =>
    rintro D Φ W3 ⟨hno, b0, b1, hpre, hsz⟩ hon hD hnD hK
    have c0 := b0.cell
    have c1 := b1.cell
    have hb3 : Below w2.heap.size w2 W3 := ⟨hon.grow.os, hon.grow.tape, hon.grow.output, hon.grow.size, fun k hk => hon.block k hk (fun h => h) (fun h => h)⟩
    have hbW : Below w.heap.size w W3 := HBW.out.1.trans (hb3.mono hwl)
    have hlock := ledger_LockX (HH.out.1.below hbW) HH.out.2.1 HH.out.2.2.1 HH.out.2.2.2.1 HH.out.2.2.2.2 n
    have hDl : D < W3.heap.size := (Array.getElem?_eq_some_iff.1 hK).1
    have eM : raiseM M a t n = lockM M a t n := if_neg (fun ⟨x, hx, he⟩ => hpre x hx he)
    have HD := Lib.hid (And.intro hbW (And.intro hD (And.intro hK (And.intro hDl eM))))
    have HLO := Lib.hid hlock
    clear hno b0 b1 hpre hsz hon hD hK hnD hit hGl hb3 hbW hlock hDl eM y0 y1
    gi_wp2_with (first
      | (refine ⟨trivial, ?_⟩; gi_at_call 92; refine (callsIn_wide.2 HLO.out).mono ?_; rintro e w4 ⟨rfl, ht⟩; have H4 := Lib.hid ht; clear ht)
      | fail)
    obtain ⟨hbW, hD, hK, hDl, eM⟩ := HD.out
    obtain ⟨F4, k1, k2, k3⟩ := H4.out
    have hFD : ∀ k, F4 k → k ≠ D := fun k hk e => (k2 k hk).elim (fun h => by have := HH.out.1.lt h; omega) (fun h => by omega)
    have hKD : w4.heap[D]? = some (.deferred (some [])) := (k3.block D hDl (fun h => by have := HH.out.1.lt h; omega) (fun h => h)).trans hK
    refine marks_leave [D] w4 (by simp) (fun d hd => ?_) (fun w' hg hk => ⟨_, results_none rfl _ _ _, rfl, ?_⟩)
    · simp only [List.mem_cons, List.not_mem_nil, or_false] at hd
      subst hd; exact hKD
    · rw [eM]
      have hs4 := k3.grow.size
      refine ⟨F4, k1.keep hg (fun k hk' => hk k (by simp; exact hFD k hk')), fun k hk' => (k2 k hk').imp id (fun h => by have := hbW.size; omega), (Grow.of_below hbW).trans (k3.grow.trans hg), fun k hk' h1 h2 => ?_⟩
      rw [hk k (by simp; omega), k3.block k (by have := hbW.size; omega) h1 (fun h => h)]
      exact hbW.block k hk'
  case stop =>
    rintro D Φ c pre W3 hpre ⟨hno, rfl, ⟨x, hx, he⟩, hsz⟩ hon hD hnD hK
    have hb3 : Below w2.heap.size w2 W3 := ⟨hon.grow.os, hon.grow.tape, hon.grow.output, hon.grow.size, fun k hk => hon.block k hk (fun h => h) (fun h => h)⟩
    have hbW : Below w.heap.size w W3 := HBW.out.1.trans (hb3.mono hwl)
    have eM : raiseM M a t n = M := if_pos ⟨x, hpre.subset hx, he⟩
    have HD := Lib.hid (And.intro hbW (And.intro hD (And.intro hK eM)))
    clear hno hpre hx he hsz hon hD hK hnD hit hGl hb3 hbW eM y0 y1
    gi_wp2_with fail
    obtain ⟨hbW, hD, hK, eM⟩ := HD.out
    refine marks_leave [D] W3 (by simp) (fun d hd => ?_) (fun w' hg hk => ⟨_, results_none rfl _ _ _, rfl, ?_⟩)
    · simp only [List.mem_cons, List.not_mem_nil, or_false] at hd
      subst hd; exact hK
    · rw [eM]
      refine LdTo.of_below HH.out.1 ⟨hg.os.trans hbW.os, hg.tape.trans hbW.tape, hg.output.trans hbW.output, Nat.le_trans hbW.size hg.size, fun k hk' => ?_⟩
      rw [hk k (by simp; omega)]
      exact hbW.block k hk'
end Go.Proofs.YtpkamfbjgdmmoaaGreat
end

section
namespace Go.Proofs.YtpkamfbjgdmmoaaGreat
open Go.RowKit
set_option linter.unusedVariables false
section
variable {P : Program} {ops : Array Oper} {md : Region.Mode} {n lp : Nat} {Q : Exit → Act → World → Prop}
theorem rowsIn_wideV {row : String} {args : Array Value} {w : World} {R : Value → World → Prop} (h : Rows P row args w R) : RowsIn Fence.wide n P row args w R :=
  fun c cs _ => let ⟨v, w', r, s⟩ := h c cs; ⟨v, w', r, stepsIn_wide.2 s⟩
theorem wpIn_of_wpR {o : Oper} (hd : ∀ c, o.op ≠ .defer c) (hQ : ¬ LetsOut Q) {a : Act} {w : World} {K : Act → World → Prop} (hh : o.wp P a w K Q) : o.wpIn (Fence.wide.inRound lp) n P a w K Q := by
  unfold Oper.wp at hh
  unfold Oper.wpIn
  refine ⟨fun f _ => trivial, ?_⟩
  have e : o.semAt (Fence.wide.inRound lp).round a.eval = execOp a.eval o := Oper.semAt_eq _ _ _ hd
  rw [e]
  generalize (execOp a.eval o).run P w = r at *
  cases r with
  | ok x w' =>
    cases x <;> simp only [Oper.upon] at hh <;> simp only [Oper.uponIn]
    case enter f args => exact ⟨fun h => by simp [Fence.wide] at h, CallsIn.inRound lp (callsIn_wide.2 hh)⟩
    case row row args => exact ⟨fun h => by simp [Fence.wide] at h, rowsIn_wideV hh⟩
    all_goals exact hh
  | halt x w' => cases x <;> simp only [Oper.upon] at hh <;> simp only [Oper.uponIn] <;> exact hh
theorem wpAnyIn_of_wpAnyR (hdf : ∀ (i : Nat) (o : Oper), ops[i]? = some o → ∀ c, o.op ≠ .defer c) (hQ : ¬ LetsOut Q) : ∀ (fuel : Nat) (listed : Array Bool) (a : Act) (w : World), wpAny P md ops Q fuel listed a w → wpAnyIn (Fence.wide.inRound lp) n P md ops Q fuel listed a w
  | 0, _, _, _, h => h
  | fuel + 1, listed, a, w, h => ⟨h.1, fun i hi => by
      have h1 := wpOp_mono (fun a' w' h' => wpAnyIn_of_wpAnyR hdf hQ fuel _ a' w' h') (h.2 i hi)
      unfold wpOp at h1
      unfold wpOpIn
      split
      · rename_i ho; simp only [ho] at h1; exact h1
      · rename_i o ho
        simp only [ho] at h1
        split
        · rename_i hw; simp only [hw, if_true] at h1; exact wpIn_of_wpR (hdf _ _ ho) hQ (h1.resolve_right (fun h => hQ h.2))
        · rename_i hw; simp only [hw] at h1; exact ⟨fun f _ => trivial, h1⟩⟩
/-- The beginning: S is shown of the world behind the draw, once, and handed on. -/
theorem wpIn_region_heldR {S : World → Prop} {id : Nat} {R : Act → World → Prop} {a : Act} {w : World} {l : List Oper} (hm : P.follows .mixedOrders = true) (hdb : l.all (fun o => match o.op with | .defer _ => false | _ => true) = true) (hS : S w.drew)
    (h : S w.drew → wpAnyH P .any l.toArray (Exit.then R (fun _ _ _ => False)) S l.toArray.size (Array.replicate l.toArray.size false) a w.drew) (hK : ∀ a w, R a w → Q .normal a w) : (Code.region id l.toArray true).wpIn (Fence.wide.inRound lp) n P Q a w := by
  have hdf : ∀ (i : Nat) (o : Oper), l.toArray[i]? = some o → ∀ c, o.op ≠ .defer c := fun i o ho c hc => by
    have hm := List.all_eq_true.1 hdb o (List.mem_of_getElem? (by simpa using ho))
    rw [hc] at hm; cases hm
  refine wpIn_mono (wpIn_region_any hm (wpAnyIn_of_wpAnyR hdf (fun ⟨a, w, h⟩ => h) _ _ _ _ (wpAny_of_held _ _ _ _ (h hS)))) (fun e a w hq => by cases e <;> first | exact hK _ _ hq | exact hq.elim)
end
end Go.Proofs.YtpkamfbjgdmmoaaGreat
end

section
namespace Go.Proofs.YtpkamfbjgdmmoaaGreat
open Go.RowKit Go.Maps Go.Shelf
attribute [local go_sem] Oper.semAt_some
set_option linter.unusedVariables false
set_option linter.unusedSimpArgs false

/-- A poll's tally, when what is lent to a voter changes. -/
def relend (x : Bal) (was is : Wgt) (t : Tl) : Tl := (t.sub (gainW x was)).add (gainW x is)
def Pl.withT (p : Pl) (t : Tl) : Pl := ⟨p.st, p.tr, t.a, t.n, t.s, p.en⟩
def lendP1 (was is : Wgt) (P : Nat → Pl) (x : Int × Bal) : Nat → Pl := if (P x.1.toNat).st = 1 then putP P x.1.toNat ((P x.1.toNat).withT (relend x.2 was is (P x.1.toNat).t)) else P
def lendP (was is : Wgt) (P : Nat → Pl) (l : List (Int × Bal)) : Nat → Pl := l.foldl (lendP1 was is) P
theorem lendP_snoc (was is : Wgt) (P : Nat → Pl) (l : List (Int × Bal)) (x : Int × Bal) : lendP was is P (l ++ [x]) = lendP1 was is (lendP was is P l) x := by simp [lendP]
theorem lendP1_same (was is : Wgt) (P : Nat → Pl) (x : Int × Bal) (k : Nat) : (lendP1 was is P x k).st = (P k).st ∧ (lendP1 was is P x k).tr = (P k).tr ∧ (lendP1 was is P x k).en = (P k).en := by
  unfold lendP1
  split
  · by_cases h : k = x.1.toNat
    · subst h; rw [putP_same]; exact ⟨rfl, rfl, rfl⟩
    · rw [putP_other _ _ h]; exact ⟨rfl, rfl, rfl⟩
  · exact ⟨rfl, rfl, rfl⟩
theorem lendP_same (was is : Wgt) : ∀ (l : List (Int × Bal)) (P : Nat → Pl) (k : Nat), (lendP was is P l k).st = (P k).st ∧ (lendP was is P l k).tr = (P k).tr ∧ (lendP was is P l k).en = (P k).en
  | [], P, k => ⟨rfl, rfl, rfl⟩
  | x :: l, P, k => by
    obtain ⟨h1, h2, h3⟩ := lendP_same was is l (lendP1 was is P x) k
    obtain ⟨k1, k2, k3⟩ := lendP1_same was is P x k
    exact ⟨h1.trans k1, h2.trans k2, h3.trans k3⟩
/-- What lending changes. -/
def lendG (S : Vs) (who t dv dc : Int) : Wgt := ⟨wrap64 (((cget S.G who t).getD ⟨0, 0⟩).v + dv), wrap64 (((cget S.G who t).getD ⟨0, 0⟩).c + dc)⟩
def lendS (S : Vs) (who t dv dc : Int) : Vs := { S with G := cput S.G who t (lendG S who t dv dc), P := lendP ((cget S.G who t).getD ⟨0, 0⟩) (lendG S who t dv dc) S.P (ballots S who t) }
/-- What the loop holds. -/
def LenI (vb N : Nat) (S1 : Vs) (F : FP) (w3 : World) (was is : Wgt) (vbx wb ib : Nat) (B0 : Nat) (pre : List (Int × Bal)) (Φ : FP) (W : World) : Prop :=
  (∀ k, ¬ Φ k) ∧ VoX vb N { S1 with P := lendP was is S1.P pre } F W ∧ Only (fun k => k = vb) (fun _ => False) w3 W ∧ W.heap[vbx]? = w3.heap[vbx]? ∧ W.heap[wb]? = w3.heap[wb]? ∧ W.heap[ib]? = w3.heap[ib]? ∧ B0 ≤ W.heap.size
theorem LenI.stab {vb N : Nat} {S1 : Vs} {F : FP} {w3 : World} {was is : Wgt} {vbx wb ib B0 : Nat} (hF : ∀ k, F k → k < B0) (h1 : vbx < B0) (h2 : wb < B0) (h3 : ib < B0) (hw : w3.heap.size ≤ B0) : Stab B0 (LenI vb N S1 F w3 was is vbx wb ib B0) := by
  rintro pre Φ W ⟨h0, hx, ho, e1, e2, e3, hs⟩
  exact ⟨fun k hk => (h0 k hk).elim, hs, fun W' hg hk => ⟨h0, hx.keep hg (fun k hf => hk k (.inl (hF k hf))), ⟨ho.grow.trans hg, fun k hk' h4 h5 => (hk k (.inl (by omega))).trans (ho.block k hk' h4 h5)⟩, (hk vbx (.inl h1)).trans e1, (hk wb (.inl h2)).trans e2, (hk ib (.inl h3)).trans e3, Nat.le_trans hs hg.size⟩⟩
def storeT (a v : Value) : Sem Unit := Instr.storeAt 54 a v
theorem storeT_hide (a v : Value) : Instr.storeAt 54 a v = storeT a v := rfl
def loadSt_T (v : Value) : Sem Value := Instr.loadAt 54 v
theorem loadSt_T_hide (v : Value) : Instr.loadAt 54 v = loadSt_T v := rfl
theorem VoX.setTX {vb N : Nat} {S : Vs} {F : FP} {w : World} (h : VoX vb N S F w) {k : Nat} (hk : k < 12) (t : Tl) : VoX vb N { S with P := putP S.P k ⟨(S.P k).st, (S.P k).tr, t.a, t.n, t.s, (S.P k).en⟩ } F (w.setCells vb (k * 6 + 2) (tlyS.f t)) := by
  obtain ⟨gv, gd, gw, gp, FV, FD, FW, FQ, h1, h2⟩ := h
  have hg := setCells_grow (b := vb) (tlyS.f t) (k * 6 + 2) w
  have ho : ∀ i, i ≠ vb → (w.setCells vb (k * 6 + 2) (tlyS.f t)).heap[i]? = w.heap[i]? := fun i hi => setCells_off hi _ _ _
  exact ⟨gv, gd, gw, gp, FV, FD, FW, FQ, ⟨h1.blk.setT hk t, h1.v.keep hg (fun i hi => ho i (fun e => h1.off.b.1 (e ▸ hi))), h1.d.keep hg (fun i hi => ho i (fun e => h1.off.b.2.1 (e ▸ hi))), h1.g.keep hg (fun i hi => ho i (fun e => h1.off.b.2.2.1 (e ▸ hi))), h1.q.keep hg (fun i hi => ho i (fun e => h1.off.b.2.2.2 (e ▸ hi))), h1.off⟩, h2⟩
theorem run_storeT {w : World} {b k : Nat} (h : w.there b k 3) (t : Tl) : (storeT (.pointer (some ⟨b, k, none⟩)) (.agg (tlyS.f t).toArray)).run Tryz.prog w = .ok () (w.setCells b k (tlyS.f t)) :=
  run_storeAt_mid w b k 54 (tlyS.f t).toArray h (by kernel_rfl) (by simp [tlyS, Value.oneCell'])
end Go.Proofs.YtpkamfbjgdmmoaaGreat
end

section
namespace Go.Proofs.YtpkamfbjgdmmoaaGreat
open Go.RowKit Go.Maps
set_option linter.unusedVariables false
set_option linter.unusedSimpArgs false

/-- A strictly rising list of numbers below n has no more than n. -/
theorem rising_length : ∀ (n : Nat) (l : List Nat), l.Pairwise (· < ·) → (∀ x ∈ l, x < n) → l.length ≤ n
  | 0, l, _, h => by
    cases l with
    | nil => simp
    | cons x l => have := h x (by simp); omega
  | n + 1, l, hp, h => by
    have h1 : (l.filter (· < n)).length ≤ n := rising_length n _ (hp.filter _) (fun x hx => by simpa using (List.mem_filter.1 hx).2)
    have h2 : l.length ≤ (l.filter (· < n)).length + 1 := by
      clear h1
      induction l with
      | nil => simp
      | cons x l ih =>
        have hp' := List.pairwise_cons.1 hp
        have ih' := ih hp'.2 (fun y hy => h y (List.mem_cons_of_mem _ hy))
        by_cases hx : x < n
        · rw [List.filter_cons_of_pos (by simpa using hx)]; simp; omega
        · have hxn : x = n := by have := h x (by simp); omega
          cases l with
          | nil => simp
          | cons y l => have := hp'.1 y (by simp); have := h y (by simp); omega
    omega
/-- Keys within bounds: no more than so many. -/
def KeyBox {β : Type} (M : Cls β) : Prop := ∀ x ∈ M, (0 ≤ x.1.1 ∧ x.1.1 < 10) ∧ (0 ≤ x.1.2 ∧ x.1.2 < 12)
theorem KeyBox.len {β : Type} {M : Cls β} (hs : SrtC M) (h : KeyBox M) : M.length ≤ 120 := by
  have h1 : (M.map (fun x => (x.1.1 * 12 + x.1.2).toNat)).Pairwise (· < ·) := by
    refine List.pairwise_map.2 (hs.imp_of_mem ?_)
    intro x y hx hy hl
    obtain ⟨h1, h2⟩ := h x hx
    obtain ⟨h3, h4⟩ := h y hy
    unfold lexlt at hl
    omega
  have h2 := rising_length 120 _ h1 (fun n hn => by
    obtain ⟨x, hx, rfl⟩ := List.mem_map.1 hn
    obtain ⟨h1, h2⟩ := h x hx
    omega)
  simpa using h2
theorem KeyBox.put {β : Type} {M : Cls β} (h : KeyBox M) {a b : Int} (ha : 0 ≤ a ∧ a < 10) (hb : 0 ≤ b ∧ b < 12) (v : β) : KeyBox (cput M a b v) := fun x hx => by
  rcases mem_cput.1 hx with rfl | ⟨h1, -⟩
  · exact ⟨ha, hb⟩
  · exact h x h1
theorem KeyBox.del {β : Type} {M : Cls β} (h : KeyBox M) (a b : Int) : KeyBox (cdel M a b) := fun x hx => h x (mem_cdel.1 hx).1
/-- What always holds of a voting. -/
structure VInv (S : Vs) : Prop where
  v : ∀ x ∈ S.V, ((0 ≤ x.1.1 ∧ x.1.1 < 10) ∧ (0 ≤ x.1.2 ∧ x.1.2 < 12)) ∧ (S.P x.1.2.toNat).st ≠ 0 ∧ balOk x.2 = true
  d : ∀ x ∈ S.D, ((0 ≤ x.1.1 ∧ x.1.1 < 10) ∧ (0 ≤ x.1.2 ∧ x.1.2 < 12)) ∧ (0 ≤ x.2.to ∧ x.2.to < 10) ∧ (0 ≤ x.2.l ∧ x.2.l ≤ 6) ∧ (0 ≤ x.2.n ∧ x.2.n ≤ 1073741824)
  g : KeyBox S.G
  q : KeyBox S.Q
  t : ∀ k, k < 12 → 0 ≤ (S.P k).tr ∧ (S.P k).tr < 4
theorem VInv.zero : VInv Vs.zero := ⟨fun x hx => (List.not_mem_nil hx).elim, fun x hx => (List.not_mem_nil hx).elim, fun x hx => (List.not_mem_nil hx).elim, fun x hx => (List.not_mem_nil hx).elim, fun k hk => ⟨Int.le_refl 0, (by decide : (0 : Int) < 4)⟩⟩
theorem VInv.boxV {S : Vs} (h : VInv S) : KeyBox S.V := fun x hx => (h.v x hx).1
theorem VInv.boxD {S : Vs} (h : VInv S) : KeyBox S.D := fun x hx => (h.d x hx).1
theorem VInv.lens {S : Vs} (h : VInv S) {vb N : Nat} {F : FP} {w : World} (hx : VoX vb N S F w) : S.V.length ≤ 120 ∧ S.D.length ≤ 120 ∧ S.G.length ≤ 120 ∧ S.Q.length ≤ 120 := by
  obtain ⟨h1, h2, h3, h4⟩ := hx.srt
  exact ⟨h.boxV.len h1, h.boxD.len h2, h.g.len h3, h.q.len h4⟩
theorem VInv.row {S : Vs} (h : VInv S) (a : Int) : ∀ x ∈ rowOf S.V a, (0 ≤ x.1 ∧ x.1 < 12) ∧ (S.P x.1.toNat).st ≠ 0 ∧ balOk x.2 = true := fun x hx => by
  obtain ⟨h1, h2, h3⟩ := h.v _ (mem_rowOf.1 hx)
  exact ⟨h1.2, h2, h3⟩

instance (P : Nat → Pl) (r : Int) : Decidable (plHas P r) := by unfold plHas; infer_instance
def gotS (S : Vs) (a t : Int) : Wgt := (cget S.G a t).getD ⟨0, 0⟩
def capB (x : Bal) : Int := x.a + x.n + x.s
/-- Vote. -/
def voteE (S : Vs) (A : Acc) (a r : Int) (x : Bal) : Int :=
  if ¬ isAcc a ∨ balOk x = false then 1 else if ¬ plHas S.P r then 4 else if (S.P r.toNat).st ≠ 1 then 9 else if (cget S.D a (S.P r.toNat).tr).isSome = true then 5 else if (A a.toNat).1 < capB x then 6 else if (cget S.V a r).isSome = false ∧ 6 ≤ (ballots S a (S.P r.toNat).tr).length then 3 else 0
def voteT0 (S : Vs) (a r : Int) : Tl := match cget S.V a r with
  | some y => (S.P r.toNat).t.sub (gainW y (gotS S a (S.P r.toNat).tr))
  | none => (S.P r.toNat).t
def voteT (S : Vs) (a r : Int) (x : Bal) : Tl := (voteT0 S a r).add (gainW x (gotS S a (S.P r.toNat).tr))
def voteS (S : Vs) (A : Acc) (a r : Int) (x : Bal) : Vs := if voteE S A a r x = 0 then { S with P := putP S.P r.toNat ((S.P r.toNat).withT (voteT S a r x)), V := cput S.V a r x } else S
def voteM (S : Vs) (A : Acc) (M : Cls Int) (a r : Int) (x : Bal) : Cls Int := if voteE S A a r x = 0 then raiseM M a (S.P r.toNat).tr (capB x) else M
/-- Unvote. -/
def unvoteE (S : Vs) (a r : Int) : Int := if ¬ isAcc a then 1 else if ¬ plHas S.P r ∨ (cget S.V a r).isSome = false then 4 else 0
def unvoteS (S : Vs) (a r now : Int) : Vs := if unvoteE S a r = 0 then
    (if (S.P r.toNat).st = 1 then { S with V := cdel S.V a r, P := putP S.P r.toNat ((S.P r.toNat).withT ((S.P r.toNat).t.sub (gainW ((cget S.V a r).getD balS.zero) (gotS S a (S.P r.toNat).tr)))) }
     else if wonB (S.P r.toNat).st ((cget S.V a r).getD balS.zero) = true then { S with V := cdel S.V a r, Q := joinQ S.Q a (S.P r.toNat).tr (wrap64 ((S.P r.toNat).en + periodI ((cget S.V a r).getD balS.zero).l 8)) ((cget S.V a r).getD balS.zero).a now }
     else { S with V := cdel S.V a r }) else S
/-- Delegate. -/
def delE (S : Vs) (A : Acc) (a t who l n : Int) : Int :=
  if ¬ isAcc a ∨ ¬ (0 ≤ t ∧ t < 4) ∨ ¬ isAcc who ∨ who = a ∨ ¬ (0 ≤ l ∧ l ≤ 6) ∨ ¬ isBal n then 1 else if (cget S.D a t).isSome = true then 5 else if 0 < (ballots S a t).length then 9 else if (A a.toNat).1 < n then 6 else 0
def delS (S : Vs) (A : Acc) (a t who l n : Int) : Vs := if delE S A a t who l n = 0 then lendS { S with D := cput S.D a t ⟨who, l, n⟩ } who t (votesI n l) n else S
def delM (S : Vs) (A : Acc) (M : Cls Int) (a t who l n : Int) : Cls Int := if delE S A a t who l n = 0 then raiseM M a t n else M
/-- Undelegate. -/
def undE (S : Vs) (a t : Int) : Int := if ¬ isAcc a ∨ ¬ (0 ≤ t ∧ t < 4) then 1 else if (cget S.D a t).isSome = false then 4 else 0
def undD (S : Vs) (a t : Int) : Dlg := (cget S.D a t).getD dlgS.zero
def undS1 (S : Vs) (a t : Int) : Vs := lendS { S with D := cdel S.D a t } (undD S a t).to t (wrap64 (-(votesI (undD S a t).n (undD S a t).l))) (wrap64 (-(undD S a t).n))
def undS (S : Vs) (a t now : Int) : Vs := if undE S a t = 0 then { undS1 S a t with Q := joinQ S.Q a t (wrap64 (now + periodI (undD S a t).l 8)) (undD S a t).n now } else S
/-- Unlock. -/
def unlE (a t : Int) : Int := if ¬ isAcc a ∨ ¬ (0 ≤ t ∧ t < 4) then 1 else 0
def unlQ (S : Vs) (a t now : Int) : Cls Wgt := if ((cget S.Q a t).getD ⟨0, 0⟩).v ≤ now then cdel S.Q a t else S.Q
def unlS (S : Vs) (a t now : Int) : Vs := if unlE a t = 0 then { S with Q := unlQ S a t now } else S
def maxCap (l : List (Int × Bal)) (n : Int) : Int := l.foldl (fun m x => max m (capB x.2)) n
def unlN (S : Vs) (a t now : Int) : Int := maxCap (ballots S a t) (max (undD S a t).n ((cget (unlQ S a t now) a t).getD ⟨0, 0⟩).c)
def unlM (S : Vs) (M : Cls Int) (a t now : Int) : Cls Int := if unlE a t = 0 then lockM M a t (unlN S a t now) else M
end Go.Proofs.YtpkamfbjgdmmoaaGreat
end

section
namespace Go.Proofs.YtpkamfbjgdmmoaaGreat
open Go.RowKit Go.Maps Go.Shelf
set_option linter.unusedVariables false
set_option linter.unusedSimpArgs false

theorem plPtr_has {vb : Nat} {P : Nat → Pl} {r : Int} (h : plHas P r) : ∃ k : Nat, r = k ∧ k < 12 ∧ (P k).st ≠ 0 ∧ plPtr vb P r = some ⟨vb, k * 6, none⟩ := by
  obtain ⟨⟨h0, h1⟩, h2⟩ := h
  refine ⟨r.toNat, by omega, by omega, h2, ?_⟩
  unfold plPtr
  rw [if_pos ⟨⟨h0, h1⟩, h2⟩]
theorem plPtr_none {vb : Nat} {P : Nat → Pl} {r : Int} (h : ¬ plHas P r) : plPtr vb P r = none := by
  unfold plPtr
  exact if_neg h
theorem wfS {n : Int} (h0 : -1000 ≤ n) (h1 : n ≤ 1099511627776) : (Lit.int .i64 n).wf = true := by
  simp [Lit.wf, IntKind.min, IntKind.max, IntKind.signed, IntKind.bits]; omega
theorem putP_withT (P : Nat → Pl) (k : Nat) : putP P k ((P k).withT (P k).t) = P := by
  funext i
  by_cases h : i = k
  · subst h; rw [putP_same]; rfl
  · rw [putP_other _ _ h]
theorem VoTo.cons {vb N : Nat} {S' : Vs} {F F1 : FP} {w w1 w' : World} (h2 : ∀ k, F1 k → F k ∨ w.heap.size ≤ k) (h3 : Only F (fun _ => False) w w1) (h : VoTo vb N S' F1 w1 w') : VoTo vb N S' F w w' := by
  obtain ⟨F2, k1, k2, k3⟩ := h
  have hs := h3.grow.size
  refine ⟨F2, k1, fun k hk => (k2 k hk).elim (fun e => h2 k e) (fun e => .inr (by omega)), h3.grow.trans k3.grow, fun k hk h4 h5 => ?_⟩
  exact (k3.block k (by omega) (fun e => (h2 k e).elim h4 (fun e => by omega)) (fun h => h)).trans (h3.block k hk h4 (fun h => h))
/-- A voting and a ledger in memory; boxes of the call's own. -/
structure Stt (g vb N : Nat) (S : Vs) (A : Acc) (M : Cls Int) (F FL Zn : FP) (w : World) (bs : List (Nat × List Value)) (W : World) : Prop where
  vo : VoX vb N S F W
  ld : LdX g N A M FL W
  dis : ∀ j, F j → ¬ FL j
  on : Only Zn (fun _ => False) w W
  sub : ∀ k, F k ∨ FL k → Zn k ∨ w.heap.size ≤ k
  bs : ∀ b ∈ bs, W.rangeAt b.1 0 b.2 ∧ (¬ F b.1 ∧ ¬ FL b.1) ∧ b.1 < W.heap.size
/-- .. one poll's tally as told. -/
abbrev Sit (g vb N k : Nat) (S : Vs) (A : Acc) (M : Cls Int) (F FL Zn : FP) (w : World) (bs : List (Nat × List Value)) (t : Tl) (W : World) : Prop :=
  Stt g vb N { S with P := putP S.P k ((S.P k).withT t) } A M F FL Zn w bs W
section
variable {g vb N k : Nat} {S S' : Vs} {A A' : Acc} {M M' : Cls Int} {F FL Zn : FP} {w : World} {bs : List (Nat × List Value)} {t : Tl} {W W' : World}
theorem Stt.start (h : LvAt g vb N S A M Zn w) : ∃ F FL, Stt g vb N S A M F FL Zn w [] w := by
  obtain ⟨F, FL, h1, h2, h3, h4⟩ := h
  exact ⟨F, FL, h1, h2, h3, Only.refl _ _ _, fun k hk => .inl ((h4 k).2 hk), fun b hb => by cases hb⟩
theorem Stt.below (h : Stt g vb N S A M F FL Zn w bs W) (hb : Below W.heap.size W W') : Stt g vb N S A M F FL Zn w bs W' :=
  ⟨h.vo.below hb, h.ld.below hb, h.dis, only_trans h.on (Only.of_later hb), h.sub, fun b hm => ⟨rangeAt_block (h.bs b hm).1 (hb.block _ (h.bs b hm).2.2), (h.bs b hm).2.1, Nat.lt_of_lt_of_le (h.bs b hm).2.2 hb.size⟩⟩
theorem Stt.box (h : Stt g vb N S A M F FL Zn w bs W) {b : Nat} {l : List Value} (hr : W.rangeAt b 0 l) (hn : ¬ F b ∧ ¬ FL b) (hl : b < W.heap.size) : Stt g vb N S A M F FL Zn w ((b, l) :: bs) W :=
  ⟨h.vo, h.ld, h.dis, h.on, h.sub, fun c hc => by
    rcases List.mem_cons.1 hc with rfl | hc
    · exact ⟨hr, hn, hl⟩
    · exact h.bs c hc⟩
theorem Stt.new (h : Stt g vb N S A M F FL Zn w bs W) {b : Nat} {l : List Value} (hr : W'.rangeAt b 0 l) (hb : Below W.heap.size W W') (hn : W.heap.size ≤ b) (hl : b < W'.heap.size) : Stt g vb N S A M F FL Zn w ((b, l) :: bs) W' :=
  (h.below hb).box hr ⟨fun hf => by have := h.vo.lt hf; omega, fun hf => by have := h.ld.lt hf; omega⟩ hl
theorem Stt.to (h : Stt g vb N S A M F FL Zn w bs W) : LvTo g vb N S A M Zn w W := ⟨fun k => F k ∨ FL k, ⟨F, FL, h.vo, h.ld, h.dis, fun k => Iff.rfl⟩, h.sub, h.on⟩
/-- The voting is changed. -/
theorem Stt.toV (h : Stt g vb N S A M F FL Zn w bs W) (ht : VoTo vb N S' F W W') : ∃ F', Stt g vb N S' A M F' FL Zn w bs W' := by
  obtain ⟨F', k1, k2, k3⟩ := ht
  refine ⟨F', k1, h.ld.keep k3.grow (fun k hk => k3.block k (h.ld.lt hk) (fun e => h.dis k e hk) (fun h => h)), fun k hk hl => (k2 k hk).elim (fun e => h.dis k e hl) (fun e => by have := h.ld.lt hl; omega), only_cons h.on (fun k hk => h.sub k (.inl hk)) k3, fun k hk => hk.elim (fun e => (k2 k e).elim (fun e => h.sub k (.inl e)) (fun e => .inr (Nat.le_trans h.on.grow.size e))) (fun e => h.sub k (.inr e)), fun b hm => ?_⟩
  obtain ⟨h1, ⟨h2, h3⟩, h4⟩ := h.bs b hm
  exact ⟨rangeAt_block h1 (k3.block _ h4 h2 (fun h => h)), ⟨fun hf => (k2 _ hf).elim h2 (fun e => by omega), h3⟩, Nat.lt_of_lt_of_le h4 k3.grow.size⟩
/-- The ledger is changed. -/
theorem Stt.toL (h : Stt g vb N S A M F FL Zn w bs W) (ht : LdTo g N A' M' FL W W') : ∃ FL', Stt g vb N S A' M' F FL' Zn w bs W' := by
  obtain ⟨F', k1, k2, k3⟩ := ht
  refine ⟨F', h.vo.keep k3.grow (fun k hk => k3.block k (h.vo.lt hk) (fun e => h.dis k hk e) (fun h => h)), k1, fun k hk hl => (k2 k hl).elim (fun e => h.dis k hk e) (fun e => by have := h.vo.lt hk; omega), only_cons h.on (fun k hk => h.sub k (.inr hk)) k3, fun k hk => hk.elim (fun e => h.sub k (.inl e)) (fun e => (k2 k e).elim (fun e => h.sub k (.inr e)) (fun e => .inr (Nat.le_trans h.on.grow.size e))), fun b hm => ?_⟩
  obtain ⟨h1, ⟨h2, h3⟩, h4⟩ := h.bs b hm
  exact ⟨rangeAt_block h1 (k3.block _ h4 h3 (fun h => h)), ⟨h2, fun hf => (k2 _ hf).elim h3 (fun e => by omega)⟩, Nat.lt_of_lt_of_le h4 k3.grow.size⟩
theorem Sit.of (h : Stt g vb N S A M F FL Zn w bs W) (k : Nat) : Sit g vb N k S A M F FL Zn w bs (S.P k).t W := by
  unfold Sit
  rw [putP_withT]
  exact h
theorem Sit.setT (h : Sit g vb N k S A M F FL Zn w bs t W) (hk : k < 12) (t' : Tl) : Sit g vb N k S A M F FL Zn w bs t' (W.setCells vb (k * 6 + 2) (tlyS.f t')) := by
  have hx := h.vo.setTX hk t'
  have hg := setCells_grow (b := vb) (tlyS.f t') (k * 6 + 2) W
  have ho : ∀ i, i ≠ vb → (W.setCells vb (k * 6 + 2) (tlyS.f t')).heap[i]? = W.heap[i]? := fun i hi => setCells_off hi _ _ _
  refine ⟨?_, h.ld.keep hg (fun i hi => ho i (fun e => h.dis vb h.vo.own (e ▸ hi))), h.dis, ?_, h.sub, fun b hb => ?_⟩
  · have e : putP (putP S.P k ((S.P k).withT t)) k ⟨(putP S.P k ((S.P k).withT t) k).st, (putP S.P k ((S.P k).withT t) k).tr, t'.a, t'.n, t'.s, (putP S.P k ((S.P k).withT t) k).en⟩ = putP S.P k ((S.P k).withT t') := by
      rw [putP_putP, putP_same]; rfl
    rw [← e]
    exact hx
  · exact only_cons h.on (fun k hk => h.sub k (.inl hk)) ⟨hg, fun i hi h1 h2 => ho i (fun e => h1 (e ▸ h.vo.own))⟩
  · obtain ⟨h1, h2, h3⟩ := h.bs b hb
    exact ⟨rangeAt_block h1 (ho _ (fun e => h2.1 (e ▸ h.vo.own))), h2, Nat.lt_of_lt_of_le h3 hg.size⟩
theorem Stt.loadV (h : Stt g vb N S A M F FL Zn w bs W) {b : Nat} {x : Bal} (hm : (b, balS.f x) ∈ bs) : (loadSt_V (.pointer (some ⟨b, 0, none⟩))).run Tryz.prog W = .ok (.agg (balS.f x).toArray) W := run_loadSt_V (h.bs _ hm).1
theorem Stt.loadW (h : Stt g vb N S A M F FL Zn w bs W) {b : Nat} {x : Wgt} (hm : (b, wgtS.f x) ∈ bs) : (loadSt_W (.pointer (some ⟨b, 0, none⟩))).run Tryz.prog W = .ok (.agg (wgtS.f x).toArray) W := run_loadSt_W (h.bs _ hm).1
theorem Sit.tally (h : Sit g vb N k S A M F FL Zn w bs t W) (hk : k < 12) : (loadSt_T (.pointer (some ⟨vb, k * 6 + 2, none⟩))).run Tryz.prog W = .ok (.agg (tlyS.f t).toArray) W ∧ (∀ t' : Tl, (storeT (.pointer (some ⟨vb, k * 6 + 2, none⟩)) (.agg (tlyS.f t').toArray)).run Tryz.prog W = .ok () (W.setCells vb (k * 6 + 2) (tlyS.f t'))) ∧ W.cell? ⟨vb, k * 6, none⟩ = some (.int .i64 (S.P k).st) ∧ W.cell? ⟨vb, k * 6 + 1, none⟩ = some (.int .i64 (S.P k).tr) ∧ W.cell? ⟨vb, k * 6 + 5, none⟩ = some (.int .i64 (S.P k).en) := by
  obtain ⟨c0, c1, c5, -, hr, hth, -⟩ := h.vo.cells hk
  have e : putP S.P k ((S.P k).withT t) k = (S.P k).withT t := putP_same _ _ _
  have hr : W.rangeAt vb (k * 6 + 2) (tlyS.f (putP S.P k ((S.P k).withT t) k).t) := hr
  rw [e] at hr
  have c0 : W.cell? ⟨vb, k * 6, none⟩ = some (.int .i64 (putP S.P k ((S.P k).withT t) k).st) := c0
  have c1 : W.cell? ⟨vb, k * 6 + 1, none⟩ = some (.int .i64 (putP S.P k ((S.P k).withT t) k).tr) := c1
  have c5 : W.cell? ⟨vb, k * 6 + 5, none⟩ = some (.int .i64 (putP S.P k ((S.P k).withT t) k).en) := c5
  rw [e] at c0 c1 c5
  exact ⟨run_loadS (s := tlyS) hr, fun t' => run_storeT hth t', c0, c1, c5⟩
end
theorem cGain (x : Bal) (l : Wgt) (h : balOk x = true) (wx : World) : Calls Tryz.prog 52 #[.agg (balS.f x).toArray, .agg (wgtS.f l).toArray] wx fun e w' => e = .returned (.agg (tlyS.f (gainW x l)).toArray) ∧ Below wx.heap.size wx w' := conv_GainW x l wx h
theorem cSub (a b : Tl) (wx : World) : Calls Tryz.prog 51 #[.agg (tlyS.f a).toArray, .agg (tlyS.f b).toArray] wx fun e w' => e = .returned (.agg (tlyS.f (a.sub b)).toArray) ∧ Below wx.heap.size wx w' := conv_SubW a b wx
theorem cAdd (a b : Tl) {u : Value} {wx : World} (hr : RdT wx u [b]) : Calls Tryz.prog 53 #[.agg (tlyS.f a).toArray, u] wx fun e w' => e = .returned (.agg (tlyS.f (a.add b)).toArray) ∧ Below wx.heap.size wx w' := conv_AddW a b u wx hr
theorem cCap (x : Bal) (h : balOk x = true) (wx : World) : Calls Tryz.prog 48 #[.agg (balS.f x).toArray] wx fun e w' => e = .returned (.int .i64 (capB x)) ∧ Below wx.heap.size wx w' := conv_CapitalW x wx h
end Go.Proofs.YtpkamfbjgdmmoaaGreat
end

section
namespace Go.Proofs.YtpkamfbjgdmmoaaGreat
open Go.RowKit Go.Maps Go.Shelf
set_option linter.unusedVariables false
set_option linter.unusedSimpArgs false

theorem refAt_is {R : List Rfm} {k : Nat} (h : k < R.length) : refAt R k = R[k] := by
  unfold refAt; rw [if_pos (by omega), Int.toNat_natCast, List.getElem?_eq_getElem h]; rfl
section
variable {r N : Nat} {ts : List Trk} {R R' : List Rfm} {F : FP} {w w' w1 : World}
set_option maxRecDepth 100000 in
theorem refer_Get (h : ReX r N ts R F w) {b : Int} (hb : (Lit.int .i64 b).wf = true) : Calls Tryz.prog 21 #[.pointer (some ⟨r, 0, none⟩), .int .i64 b] w fun e w' => e = .returned (.tuple #[.agg (rfS.f (refAt R b)).toArray, .bool (refHas R b)]) ∧ Below w.heap.size w w' := by
  obtain ⟨rb, hrb⟩ : ∃ rb, rb = w.heap.size := ⟨_, rfl⟩
  obtain ⟨W0, hW0⟩ : ∃ W0, W0 = w.alloc (rfS.obj rfS.zero) := ⟨_, rfl⟩
  have hB0 : Below w.heap.size w W0 := by rw [hW0]; exact (Below.refl _ w).alloc (Nat.le_refl _) _
  have hz : W0.heap[rb]? = some (rfS.obj rfS.zero) := by rw [hW0, hrb]; exact World.alloc_heap_new w _
  have h0 := h.below hB0
  obtain ⟨tb, cap, gb, FG, h1, h2, h3, h4, h5, h6, h7, h8, h9⟩ := h0
  have c1 : W0.cell? ⟨r, 1, none⟩ = some (.pointer (some ⟨gb, 0, none⟩)) := by rw [World.cell?, h1]; rfl
  obtain ⟨t, ht⟩ : ∃ t, t = refAt R b := ⟨_, rfl⟩
  obtain ⟨q, hq⟩ : ∃ q, q = refHas R b := ⟨_, rfl⟩
  have hg : Calls Tryz.prog 61 #[.pointer (some ⟨gb, 0, none⟩), .int .i64 0, .int .i64 b] W0 fun e w' => e = .returned (.tuple #[.agg (rfS.f t).toArray, .bool q]) ∧ w'.heap[rb]? = some (rfS.obj rfS.zero) ∧ Below W0.heap.size W0 w' := by
    have := grid_Get_R h4 (a := 0) (by decide) hb
    rw [refAt_get, refHas_get, ← ht, ← hq] at this
    exact this.mono fun e w' ⟨he, hb⟩ => ⟨he, (hb.block rb (Array.getElem?_eq_some_iff.1 hz).1).trans hz, hb⟩
  have HG := Lib.hid hg
  have HW0 := Lib.hid (And.intro hW0 hrb)
  have HB0 := Lib.hid hB0
  rw [← ht, ← hq]
  clear h h1 h2 h3 h4 h5 h6 h7 h8 h9 hg ht hq hz hB0 hW0 hrb hb
  go_enter Tryz.func21, Tryz.ntmps21
  go_upto_region 1 with (first | (refine wpl_allocS (s := rfS) rfl rfl rfl ?_) | fail)
  rw [← HW0.out.1, ← HW0.out.2]
  go_wp2_with (first
    | (go_at_call 61; refine HG.out.mono ?_; rintro e w2 ⟨rfl, hz2, hb⟩; have H2 := Lib.hid (And.intro hz2 hb); clear hz2 hb)
    | (refine wpl_storeS (s := rfS) (t := t) (b := rb) _ _ rfl rfl rfl rfl rfl H2.out.1 (zeroS rfS) ?_)
    | fail)
  exact bodyPost_ret (v := .tuple #[rfS.v t, .bool q]) (results_S2 (s := rfS) Tryz.results21 rfl rfl (rangeAt_whole (T := rfS.T) (setRow_heap _ _ _ _ _ _ H2.out.1))) rfl ⟨rfl, by
    have hb := HB0.out.trans (H2.out.2.mono HB0.out.size)
    exact ⟨hb.os, hb.tape, hb.output, by have := hb.size; simpa [World.setRow] using this, fun k hk => (setRow_other _ _ _ _ (by have := HW0.out.2; omega)).trans (hb.block k hk)⟩⟩
set_option maxRecDepth 100000 in
attribute [local go_sem ↓] loadSt_R_hide in
/-- A referendum is set: one that there is, or the next one. -/
theorem refer_set (h : ReX r N ts R F w) (hN : N ≤ w.heap.size) {k : Nat} (hk : k ≤ R.length) (hl : R.length ≤ 1000) (x : Rfm) (hr' : R' = if k < R.length then R.set k x else R ++ [x]) : Calls Tryz.prog 41 #[.pointer (some ⟨r, 0, none⟩), .int .i64 k, .agg (rfS.f x).toArray] w fun e w' => e = .returned (.tuple #[]) ∧ ReTo r N ts R' F w w' := by
  obtain ⟨W0, hW0⟩ : ∃ W0, W0 = w.alloc (.cells (rfS.f x).toArray 56) := ⟨_, rfl⟩
  have hB0 : Below w.heap.size w W0 := by rw [hW0]; exact (Below.refl _ w).alloc (Nat.le_refl _) _
  have h0 := h.below hB0
  obtain ⟨tb, cap, gb, FG, h1, h2, h3, h4, h5, h6, h7, h8, h9⟩ := h0
  have c1 : W0.cell? ⟨r, 1, none⟩ = some (.pointer (some ⟨gb, 0, none⟩)) := by rw [World.cell?, h1]; rfl
  obtain ⟨rb, hrb⟩ : ∃ rb, rb = w.heap.size := ⟨_, rfl⟩
  have lx : (loadSt_R (.pointer (some ⟨rb, 0, none⟩))).run Tryz.prog W0.drew = .ok (.agg (rfS.f x).toArray) W0.drew := run_loadSt_R (show W0.drew.rangeAt rb 0 (rfS.f x) from rangeAt_block (w := W0) (by rw [hW0, hrb]; exact atS rfS w x) rfl)
  have eM : cput (tabR 0 R) 0 k x = tabR 0 R' := by
    rw [hr']
    by_cases q : k < R.length
    · rw [if_pos q]; exact put_tabR_old q x
    · rw [if_neg q]
      obtain rfl : k = R.length := by omega
      exact put_tabR_new R x
  have hset : Calls Tryz.prog 84 #[.pointer (some ⟨gb, 0, none⟩), .int .i64 0, .int .i64 k, .agg (rfS.f x).toArray] W0.drew fun e w' => e = .returned (.tuple #[]) ∧ ReTo r N ts R' F w w' := by
    refine (grid_Set_R (h4.keep (w' := W0.drew) ⟨rfl, rfl, rfl, Nat.le_refl _⟩ (fun _ _ => rfl)) (by rw [tabR_len]; omega) (a := 0) (by decide) (wfS (by omega) (by omega)) x).mono ?_
    rintro e w' ⟨rfl, FG', k1, k2, k3⟩
    rw [eM] at k1
    have hs0 : w.heap.size ≤ W0.heap.size := hB0.size
    have hs1 : W0.heap.size ≤ w'.heap.size := k3.grow.size
    have hrl : r < W0.heap.size := (Array.getElem?_eq_some_iff.1 h1).1
    have hFn : ∀ k, FG k → k ≠ r ∧ k ≠ tb := fun k hk => (h5 k hk).2
    refine ⟨rfl, fun k => k = r ∨ k = tb ∨ FG' k, ⟨tb, cap, gb, FG', (k3.block r hrl (fun hf => (hFn r hf).1 rfl) (fun h => h)).trans h1, rangeAt_block (w := W0) h2 (k3.block tb h3 (fun hf => (hFn tb hf).2 rfl) (fun h => h)), Nat.lt_of_lt_of_le h3 hs1, k1, fun k hk => ?_, h6, h7, h8, fun k => Iff.rfl⟩, fun k hk => ?_, ?_⟩
    · rcases k2 k hk with e | e
      · exact h5 k e
      · have e : W0.heap.size ≤ k := e
        exact ⟨by omega, by omega, by omega⟩
    · rcases hk with e | e | e
      · exact .inl ((h9 k).2 (.inl e))
      · exact .inl ((h9 k).2 (.inr (.inl e)))
      · exact (k2 k e).imp (fun e => (h9 k).2 (.inr (.inr e))) (fun e => by have e : W0.heap.size ≤ k := e; omega)
    · exact ⟨(Grow.of_below hB0).trans (show Grow W0 w' from ⟨k3.grow.os, k3.grow.tape, k3.grow.output, k3.grow.size⟩), fun j hj h8 h9' => ((k3.block j (by show j < W0.heap.size; omega) (fun hf => h8 ((h9 j).2 (.inr (.inr hf)))) (fun h => h)).trans (show W0.drew.heap[j]? = W0.heap[j]? from rfl)).trans (hB0.block j hj)⟩
  have HS := Lib.hid hset
  have HW0 := Lib.hid (And.intro hW0 hrb)
  have mixed : Tryz.prog.follows .mixedOrders = true := by kernel_rfl
  clear h h1 h2 h3 h4 h5 h6 h7 h8 h9 hset hB0 hW0 hrb eM hr' hN hk hl
  go_enter Tryz.func41, Tryz.ntmps41
  go_upto_region 1 with fail
  rw [← HW0.out.1, ← HW0.out.2]
  go_still_tail 6, (by kernel_rfl)
  change wpList _ _ _ _ _ W0.drew
  go_wp2_with (first
    | (go_at_call 84; refine HS.out.mono ?_; rintro e w2 ⟨rfl, hto⟩; have H2 := Lib.hid hto; clear hto)
    | fail)
  exact bodyPost_end (results_none rfl _ _ _) rfl ⟨rfl, H2.out⟩
/-- What ongoing answers: 4, there is none; 9, it has ended. -/
def ongE (R : List Rfm) (b : Int) : Int := if refHas R b then (if (refAt R b).st = 1 then 0 else 9) else 4
def ongV (R : List Rfm) (b : Int) : Rfm := if ongE R b = 0 then refAt R b else rf0
set_option maxRecDepth 100000 in
set_option maxHeartbeats 4000000 in
attribute [local go_sem ↓] loadSt_R_hide in
theorem refer_ongoing (h : ReX r N ts R F w) {b : Int} (hb : (Lit.int .i64 b).wf = true) : Calls Tryz.prog 42 #[.pointer (some ⟨r, 0, none⟩), .int .i64 b] w fun e w' => e = .returned (.tuple #[.agg (rfS.f (ongV R b)).toArray, .int .i64 (ongE R b)]) ∧ Below w.heap.size w w' := by
  obtain ⟨rb, hrb⟩ : ∃ rb, rb = w.heap.size := ⟨_, rfl⟩
  obtain ⟨W0, hW0⟩ : ∃ W0, W0 = w.alloc (rfS.obj rfS.zero) := ⟨_, rfl⟩
  have hB0 : Below w.heap.size w W0 := by rw [hW0]; exact (Below.refl _ w).alloc (Nat.le_refl _) _
  have hz : W0.heap[rb]? = some (rfS.obj rfS.zero) := by rw [hW0, hrb]; exact World.alloc_heap_new w _
  obtain ⟨t, ht⟩ : ∃ t, t = refAt R b := ⟨_, rfl⟩
  obtain ⟨q, hq⟩ : ∃ q, q = refHas R b := ⟨_, rfl⟩
  have hg : Calls Tryz.prog 21 #[.pointer (some ⟨r, 0, none⟩), .int .i64 b] W0 fun e w' => e = .returned (.tuple #[.agg (rfS.f t).toArray, .bool q]) ∧ w'.heap[rb]? = some (rfS.obj rfS.zero) ∧ Below W0.heap.size W0 w' := by
    rw [ht, hq]
    exact (refer_Get (h.below hB0) hb).mono fun e w' ⟨he, hb⟩ => ⟨he, (hb.block rb (Array.getElem?_eq_some_iff.1 hz).1).trans hz, hb⟩
  have eE : ongE R b = if q = true then (if t.st = 1 then 0 else 9) else 4 := by unfold ongE; rw [ht, hq]
  have eV : ongV R b = if ongE R b = 0 then t else rf0 := by unfold ongV; rw [ht]
  rw [eV, eE]
  have HG := Lib.hid hg
  have HW0 := Lib.hid (And.intro hW0 hrb)
  have HB0 := Lib.hid (And.intro hB0 hrb)
  clear h hg ht hq hz hB0 hW0 hrb hb eE eV
  have fin : ∀ (w2 : World) (y : Rfm), w2.heap[rb]? = some (rfS.obj rfS.zero) → Below W0.heap.size W0 w2 → Below w.heap.size w ((w2.alloc (rfS.obj t)).setRow rb (rfS.f y).toArray) := fun w2 y hz hb => by
    have hb := (HB0.out.1.trans (hb.mono HB0.out.1.size)).alloc (by have := HB0.out.1.size; have := hb.size; omega) (rfS.obj t)
    exact ⟨hb.os, hb.tape, hb.output, by have := hb.size; simpa [World.setRow] using this, fun k hk => (setRow_other _ _ _ _ (by have := HB0.out.2; omega)).trans (hb.block k hk)⟩
  have FIN := Lib.hid fin
  have hk : ∀ (w2 : World), w2.heap[rb]? = some (rfS.obj rfS.zero) → (w2.alloc (rfS.obj t)).heap[rb]? = some (rfS.obj rfS.zero) := fun w2 hz => (Below.heap_alloc _ _ _ (Array.getElem?_eq_some_iff.1 hz).1).trans hz
  have HK := Lib.hid hk
  clear fin hk
  have c0 : ∀ w2 : World, (w2.alloc (rfS.obj t)).cell? ⟨w2.heap.size, 0, none⟩ = some (.int .i64 t.st) := fun w2 => (rf_at (atS rfS w2 t)).1
  have lt0 : ∀ w2 : World, (loadSt_R (.pointer (some ⟨w2.heap.size, 0, none⟩))).run Tryz.prog (w2.alloc (rfS.obj t)) = .ok (.agg (rfS.f t).toArray) (w2.alloc (rfS.obj t)) := fun w2 => run_loadSt_R (atS rfS w2 t)
  have LT0 := Lib.hid lt0
  have C0 := Lib.hid c0
  clear c0 lt0
  cases q
  · rw [show (if (false : Bool) = true then (if t.st = 1 then (0 : Int) else 9) else 4) = 4 from rfl, if_neg (by decide : ¬ (4 : Int) = 0)]
    go_enter Tryz.func42, Tryz.ntmps42
    go_upto_region 1 with (first | (refine wpl_allocS (s := rfS) rfl rfl rfl ?_) | fail)
    rw [← HW0.out.1, ← HW0.out.2]
    go_wp2_with (first
      | (go_at_call 21; refine HG.out.mono ?_; rintro e w2 ⟨rfl, hz2, hb⟩; have H2 := Lib.hid (And.intro hz2 hb); clear hz2 hb)
      | (refine wpl_allocS (s := rfS) rfl rfl rfl ?_)
      | (refine wpl_storeS (s := rfS) (t := t) (b := w2.heap.size) _ _ rfl rfl rfl rfl rfl (World.alloc_heap_new w2 _) (zeroS rfS) ?_; rw [newS])
      | (refine wpl_storeS (s := rfS) (t := rf0) (b := rb) _ _ rfl rfl rfl rfl rfl (HK.out _ H2.out.1) (zeroS rfS) ?_)
      | fail)
    exact bodyPost_ret (v := .tuple #[rfS.v rf0, .int .i64 4]) (results_S2 (s := rfS) Tryz.results42 rfl rfl (rangeAt_whole (T := rfS.T) (setRow_heap _ _ _ _ _ _ (HK.out _ H2.out.1)))) rfl ⟨rfl, FIN.out _ _ H2.out.1 H2.out.2⟩
  · rw [if_pos rfl]
    by_cases q1 : t.st = 1
    · rw [if_pos q1, if_pos rfl]
      have q1' : (t.st != 1) = false := by simp [q1]
      have HQ := Lib.hid q1
      clear q1
      go_enter Tryz.func42, Tryz.ntmps42
      go_upto_region 1 with (first | (refine wpl_allocS (s := rfS) rfl rfl rfl ?_) | fail)
      rw [← HW0.out.1, ← HW0.out.2]
      go_wp2_with (first
        | (go_at_call 21; refine HG.out.mono ?_; rintro e w2 ⟨rfl, hz2, hb⟩; have H2 := Lib.hid (And.intro hz2 hb); clear hz2 hb)
        | (refine wpl_allocS (s := rfS) rfl rfl rfl ?_)
        | (refine wpl_storeS (s := rfS) (t := t) (b := w2.heap.size) _ _ rfl rfl rfl rfl rfl (World.alloc_heap_new w2 _) (zeroS rfS) ?_; rw [newS]; have c0 := C0.out w2; have l0 := LT0.out w2)
        | (refine wpl_storeS (s := rfS) (t := t) (b := rb) _ _ rfl rfl rfl rfl rfl (HK.out _ H2.out.1) (zeroS rfS) ?_)
        | fail)
      exact bodyPost_ret (v := .tuple #[rfS.v t, .int .i64 0]) (results_S2 (s := rfS) Tryz.results42 rfl rfl (rangeAt_whole (T := rfS.T) (setRow_heap _ _ _ _ _ _ (HK.out _ H2.out.1)))) rfl ⟨rfl, FIN.out _ _ H2.out.1 H2.out.2⟩
    · rw [if_neg q1, if_neg (by decide)]
      have q1' : (t.st != 1) = true := by simp [q1]
      have HQ := Lib.hid q1
      clear q1
      go_enter Tryz.func42, Tryz.ntmps42
      go_upto_region 1 with (first | (refine wpl_allocS (s := rfS) rfl rfl rfl ?_) | fail)
      rw [← HW0.out.1, ← HW0.out.2]
      go_wp2_with (first
        | (go_at_call 21; refine HG.out.mono ?_; rintro e w2 ⟨rfl, hz2, hb⟩; have H2 := Lib.hid (And.intro hz2 hb); clear hz2 hb)
        | (refine wpl_allocS (s := rfS) rfl rfl rfl ?_)
        | (refine wpl_storeS (s := rfS) (t := t) (b := w2.heap.size) _ _ rfl rfl rfl rfl rfl (World.alloc_heap_new w2 _) (zeroS rfS) ?_; rw [newS]; have c0 := C0.out w2; have l0 := LT0.out w2)
        | (refine wpl_storeS (s := rfS) (t := rf0) (b := rb) _ _ rfl rfl rfl rfl rfl (HK.out _ H2.out.1) (zeroS rfS) ?_)
        | fail)
      exact bodyPost_ret (v := .tuple #[rfS.v rf0, .int .i64 9]) (results_S2 (s := rfS) Tryz.results42 rfl rfl (rangeAt_whole (T := rfS.T) (setRow_heap _ _ _ _ _ _ (HK.out _ H2.out.1)))) rfl ⟨rfl, FIN.out _ _ H2.out.1 H2.out.2⟩
end
/-- Is there a poll of that number? -/
theorem refer_hasPoll {vb N : Nat} {S : Vs} {F : FP} {w : World} (h : VoX vb N S F w) (r : Int) : Calls Tryz.prog 38 #[.pointer (some ⟨vb, 0, none⟩), .int .i64 r] w fun e w' => e = .returned (.bool (decide (plHas S.P r))) ∧ VoTo vb N S F w w' := by
  have hc := h.Close r 1 0
  have e1 : closeS S r 1 0 = S := by
    unfold closeS
    rw [if_neg]
    unfold closeE
    split
    · decide
    · split
      · decide
      · rw [if_pos (by omega)]; decide
  have e2 : (closeE S.P r 1 != 4) = decide (plHas S.P r) := by
    unfold closeE plHas
    by_cases q : (0 ≤ r ∧ r < 12) ∧ (S.P r.toNat).st ≠ 0
    · rw [if_neg (fun h => h q)]
      split
      · simp [q]
      · rw [if_pos (by omega)]; simp [q]
    · rw [if_pos q]; simp [q]
  rw [e1] at hc
  rw [← e2]
  have HC := Lib.hid hc
  clear hc e1 e2
  obtain ⟨E, hE⟩ : ∃ E, E = closeE S.P r 1 := ⟨_, rfl⟩
  rw [← hE] at HC ⊢
  clear hE
  go_enter Tryz.func38, Tryz.ntmps38
  go_wp2_with (first
    | (go_at_call 82; refine HC.out.mono ?_; rintro e w2 ⟨rfl, hto⟩; have H2 := Lib.hid hto; clear hto)
    | fail)
  go_ret
  exact ⟨rfl, H2.out⟩
end Go.Proofs.YtpkamfbjgdmmoaaGreat
end

section
namespace Go.Proofs.YtpkamfbjgdmmoaaGreat
open Go.RowKit
set_option linter.unusedVariables false

/-- A track and a tally lie in the first two blocks behind w0's. -/
structure PBox (w0 : World) (t : Trk) (x y s : Int) (w : World) : Prop where
  box : KBox w0 t w
  d0 : w.cell? ⟨w0.heap.size + 1, 0, none⟩ = some (.int .i64 x)
  d1 : w.cell? ⟨w0.heap.size + 1, 1, none⟩ = some (.int .i64 y)
  d2 : w.cell? ⟨w0.heap.size + 1, 2, none⟩ = some (.int .i64 s)
  lt : w0.heap.size + 1 < w.heap.size
theorem PBox.below {w0 : World} {t : Trk} {x y s : Int} {w w' : World} (h : PBox w0 t x y s w) (hb : Below w.heap.size w w') : PBox w0 t x y s w' :=
  ⟨h.box.below hb, ((bcell hb).1 _ _ h.lt).trans h.d0, ((bcell hb).1 _ _ h.lt).trans h.d1, ((bcell hb).1 _ _ h.lt).trans h.d2, Nat.lt_of_lt_of_le h.lt hb.size⟩
theorem PBox.new {t : Trk} {x y s : Int} {w : World} {T U : TypeId} : PBox w t x y s ((w.alloc (.cells t.cells T)).alloc (.cells #[.int .i64 x, .int .i64 y, .int .i64 s] U)) :=
  ⟨KBox.new.below (below_new (Below.refl _ _) _), by simp, by simp, by simp, by simp⟩

def placeI (t : Trk) (el : Int) : Int := ratioI (min el t.dec) t.dec
def passB (t : Trk) (x y s i el : Int) : Bool :=
  decide (atI t.ak t.aa t.ab t.ac t.ad (placeI t el) ≤ ratioI x (x + y)) && decide (atI t.sk t.sa t.sb t.sc t.sd (placeI t el) ≤ ratioI s i)

theorem trackB_out {t : Trk} (h : trackB t = true) : (1 ≤ t.dec ∧ t.dec ≤ 1000) ∧ isB t.ak t.aa t.ab t.ac t.ad = true ∧ isB t.sk t.sa t.sb t.sc t.sd = true := by
  simp only [trackB, Bool.and_eq_true] at h
  obtain ⟨⟨⟨⟨-, h1⟩, h2⟩, h3⟩, -⟩ := h
  exact ⟨withinB_out h1, h2, h3⟩

set_option maxHeartbeats 4000000 in
theorem track_Passing (t : Trk) (x y s i el : Int) (w : World) (h : Fits10 x y s i) (ht : trackB t = true) (e0 : 0 ≤ el) :
    Calls Tryz.prog 98 #[t.val, tally x y s, .int .i64 i, .int .i64 el] w fun e w' => e = .returned (.bool (passB t x y s i el)) ∧ Below w.heap.size w w' := by
  obtain ⟨⟨d0, d1⟩, ia, is⟩ := trackB_out ht
  have HP : Hid (passB t x y s i el = (decide (atI t.ak t.aa t.ab t.ac t.ad (placeI t el) ≤ ratioI x (x + y)) && decide (atI t.sk t.sa t.sb t.sc t.sd (placeI t el) ≤ ratioI s i))) := Lib.hid rfl
  have HM : Hid (ratioI (min el t.dec) t.dec = placeI t el) := Lib.hid rfl
  generalize hm : min el t.dec = m at HM
  have m0 : 0 ≤ m := by omega
  have m1 : m ≤ t.dec := by omega
  have E : (if t.dec < el then t.dec else el) = m := by omega
  have E0 : min el t.dec = m := by omega
  clear hm
  have E2 := HM.out
  go_enter Tryz.func98, Tryz.ntmps98
  go_wp2_with (first | (go_at_call 122; refine (per_Ratio _ _ _ (by omega) (by omega) (by omega) (by omega)).mono ?_; rintro e w' ⟨rfl, rfl⟩) | (go_at_call 123; refine (track_Shares _ _ _ _ _ h).mono ?_; rintro e w1 ⟨rfl, hb1⟩; have B1 := PBox.new.below hb1; clear hb1; have x6 := B1.box.c6; have x7 := B1.box.c7; have x8 := B1.box.c8; have x9 := B1.box.c9; have x10 := B1.box.c10; have x11 := B1.box.c11; have x12 := B1.box.c12; have x13 := B1.box.c13; have x14 := B1.box.c14; have x15 := B1.box.c15) | fail)
  refine (per_At _ _ _ _ _ _ _ ia).mono ?_
  rintro e w2 ⟨rfl, hb2⟩
  have B2 := B1.below hb2
  clear hb2 x6 x7 x8 x9 x10 x11 x12 x13 x14 x15
  have x11 := B2.box.c11; have x12 := B2.box.c12; have x13 := B2.box.c13; have x14 := B2.box.c14; have x15 := B2.box.c15
  go_wp2_with (first | (go_at_call 124; refine (per_At _ _ _ _ _ _ _ is).mono ?_; rintro e w3 ⟨rfl, hb3⟩; have B3 := B2.below hb3) | fail)
  all_goals
    go_ret
    exact ⟨cvRet_bool (by rw [HP.out]; first | (simp [*]; done) | (simp; omega)), (by first | exact B3.box.old | exact B2.box.old)⟩

end Go.Proofs.YtpkamfbjgdmmoaaGreat
end

section
namespace Go.Proofs.YtpkamfbjgdmmoaaGreat
open Go.RowKit Go.Maps Go.Shelf
set_option linter.unusedVariables false
set_option linter.unusedSimpArgs false

/-- Numbers of blocks that are told without wrapping. -/
def soon (n : Int) : Prop := -1 ≤ n ∧ n ≤ 1099511627776
/-- The state that an ongoing referendum is in. -/
def outE (t : Trk) (x : Rfm) (now : Int) : Int :=
  if x.si = -1 ∧ 30 ≤ now - x.sb then 4
  else if x.si ≠ -1 ∧ x.un ≠ -1 ∧ x.un ≤ now then 2
  else if x.si ≠ -1 ∧ x.un = -1 ∧ t.dec ≤ now - x.si then 3 else 1
section
variable {r N : Nat} {ts : List Trk} {R R' : List Rfm} {F : FP} {w w' w1 : World}
theorem trk_at {tb : Nat} (h : w.rangeAt tb 0 (trkR.all ts)) {k : Nat} (hk : k < ts.length) : w.rangeAt tb (k * 18) (trkR.f ts[k]) := fun j u hj => by
  have hj18 : j < 18 := by have := (List.getElem?_eq_some_iff.1 hj).1; rwa [trkR.len] at this
  have := h (k * 18 + j) u (by rw [show k * 18 + j = k * trkR.k + j from rfl, trkR.all_at hk hj18]; exact hj)
  rwa [Nat.zero_add] at this
set_option maxRecDepth 100000 in
set_option maxHeartbeats 4000000 in
theorem refer_outcome (h : ReX r N ts R F w) (x : Rfm) {k : Nat} (hk : k < ts.length) (htr : x.tr = k) {now : Int} (hn : soon now) (hsb : soon x.sb) (hsi : soon x.si) : Calls Tryz.prog 59 #[.pointer (some ⟨r, 0, none⟩), .agg (rfS.f x).toArray, .int .i64 now] w fun e w' => e = .returned (.int .i64 (outE ts[k] x now)) ∧ Below w.heap.size w w' := by
  obtain ⟨W0, hW0⟩ : ∃ W0, W0 = w.alloc (.cells (rfS.f x).toArray 56) := ⟨_, rfl⟩
  have hB0 : Below w.heap.size w W0 := by rw [hW0]; exact (Below.refl _ w).alloc (Nat.le_refl _) _
  obtain ⟨rb, hrb⟩ : ∃ rb, rb = w.heap.size := ⟨_, rfl⟩
  obtain ⟨tb, cap, gb, c0, -, htb, htl⟩ := (h.below hB0).cells
  have hx : W0.rangeAt rb 0 (rfF x) := by rw [hW0, hrb]; exact atS rfS w x
  obtain ⟨x0, x1, x34, x35, x36, x37, x38, x39, x40, x41⟩ := rf_at hx
  obtain ⟨t, ht⟩ : ∃ t, t = ts[k] := ⟨_, rfl⟩
  have hrt := trk_at htb hk
  rw [← ht] at hrt ⊢
  have d3 : W0.cell? ⟨tb, k * 18 + 3, none⟩ = some (.int .i64 t.dec) := hrt 3 _ rfl
  obtain ⟨si, hsi'⟩ : ∃ si, si = x.si := ⟨_, rfl⟩
  obtain ⟨un, hun'⟩ : ∃ un, un = x.un := ⟨_, rfl⟩
  obtain ⟨sb, hsb'⟩ : ∃ sb, sb = x.sb := ⟨_, rfl⟩
  obtain ⟨dc, hdc⟩ : ∃ dc, dc = t.dec := ⟨_, rfl⟩
  obtain ⟨n, hn'⟩ : ∃ n, n = ts.length := ⟨_, rfl⟩
  have eE : outE t x now = if si = -1 ∧ 30 ≤ now - sb then 4 else if si ≠ -1 ∧ un ≠ -1 ∧ un ≤ now then 2 else if si ≠ -1 ∧ un = -1 ∧ dc ≤ now - si then 3 else 1 := by unfold outE; rw [hsi', hun', hsb', hdc]
  obtain ⟨EE, hEE⟩ : ∃ E, E = outE t x now := ⟨_, rfl⟩
  rw [← hEE]
  rw [eE] at hEE
  have HEE := Lib.hid hEE
  clear hEE
  rw [← hsi'] at x39 hsi
  rw [← hun'] at x40
  rw [← hsb'] at x35 hsb
  rw [htr] at x1
  rw [← hdc] at d3
  rw [← hn'] at c0 hk
  unfold soon at hn hsb hsi
  have wr1 : IntKind.i64.wrap (now - sb) = now - sb := IntWalk.i64_in _ (by omega)
  have wr2 : IntKind.i64.wrap (now - si) = now - si := IntWalk.i64_in _ (by omega)
  have hkI : (k : Int) < n := by omega
  have HW0 := Lib.hid (And.intro hW0 hrb)
  have HB0 := Lib.hid hB0
  clear h htb hx x0 x34 x36 x37 x38 x41 hrt hsi' hun' hsb' hdc hn' eE hn hsb hsi hW0 hrb hB0 htr ht hk
  go_enter Tryz.func59, Tryz.ntmps59
  go_upto_region 1 with fail
  rw [← HW0.out.1, ← HW0.out.2]
  have fin : ∀ (E : Int) (W' : World), Below w.heap.size W0 W' → EE = E → Ending.returned (.int .i64 E) = .returned (.int .i64 EE) ∧ Below w.heap.size w W' := fun E W' hb h => ⟨by rw [h], HB0.out.trans hb⟩
  have FIN := Lib.hid fin
  clear fin
  by_cases q1 : si = -1
  · have b1 : (si != -1) = false := by simp [q1]
    have HQ := Lib.hid q1
    clear q1
    go_quiet (fail)
    go_wp2_with fail
    all_goals
      first
        | (go_ret; exact FIN.out _ _ (by first | exact below_dn (Below.refl _ _) _ | exact below_dn (below_dn (Below.refl _ _) _) _) (by have hq := HQ.out; rw [HEE.out]; split <;> first | rfl | (exfalso; omega) | (split <;> first | rfl | (exfalso; omega) | (split <;> first | rfl | (exfalso; omega)))))
        | (go_quiet (fail); go_wp2_with fail; all_goals (go_ret; exact FIN.out _ _ (by first | exact below_dn (Below.refl _ _) _ | exact below_dn (below_dn (Below.refl _ _) _) _) (by have hq := HQ.out; rw [HEE.out]; split <;> first | rfl | (exfalso; omega) | (split <;> first | rfl | (exfalso; omega) | (split <;> first | rfl | (exfalso; omega))))))
        | fail
  · have b1 : (si != -1) = true := by simp [q1]
    by_cases q2 : un = -1
    · have b2 : (un != -1) = false := by simp [q2]
      have HQ := Lib.hid (And.intro q1 q2)
      clear q1 q2
      go_quiet (fail)
      go_wp2_with fail
      all_goals
        first
          | (go_ret; exact FIN.out _ _ (by first | exact below_dn (Below.refl _ _) _ | exact below_dn (below_dn (Below.refl _ _) _) _) (by have hq := HQ.out; rw [HEE.out]; split <;> first | rfl | (exfalso; omega) | (split <;> first | rfl | (exfalso; omega) | (split <;> first | rfl | (exfalso; omega)))))
          | (go_quiet (fail); go_wp2_with fail; all_goals (go_ret; exact FIN.out _ _ (by first | exact below_dn (Below.refl _ _) _ | exact below_dn (below_dn (Below.refl _ _) _) _) (by have hq := HQ.out; rw [HEE.out]; split <;> first | rfl | (exfalso; omega) | (split <;> first | rfl | (exfalso; omega) | (split <;> first | rfl | (exfalso; omega))))))
          | fail
    · have b2 : (un != -1) = true := by simp [q2]
      have HQ := Lib.hid (And.intro q1 q2)
      clear q1 q2
      go_quiet (fail)
      go_wp2_with fail
      all_goals
        first
          | (go_ret; exact FIN.out _ _ (by first | exact below_dn (Below.refl _ _) _ | exact below_dn (below_dn (Below.refl _ _) _) _) (by have hq := HQ.out; rw [HEE.out]; split <;> first | rfl | (exfalso; omega) | (split <;> first | rfl | (exfalso; omega) | (split <;> first | rfl | (exfalso; omega)))))
          | (go_quiet (fail); go_wp2_with fail; all_goals (go_ret; exact FIN.out _ _ (by first | exact below_dn (Below.refl _ _) _ | exact below_dn (below_dn (Below.refl _ _) _) _) (by have hq := HQ.out; rw [HEE.out]; split <;> first | rfl | (exfalso; omega) | (split <;> first | rfl | (exfalso; omega) | (split <;> first | rfl | (exfalso; omega))))))
          | fail
end
end Go.Proofs.YtpkamfbjgdmmoaaGreat
end

section
namespace Go.Proofs.YtpkamfbjgdmmoaaGreat
open Go.RowKit Go.Maps Go.Shelf
set_option linter.unusedVariables false
set_option linter.unusedSimpArgs false

/-- A poll's tally, nothing of what is none. -/
def tallyOf (S : Vs) (r : Int) : Tl := if plHas S.P r then (S.P r.toNat).t else ⟨0, 0, 0⟩
theorem VoX.Tally {vb N : Nat} {S : Vs} {F : FP} {w : World} (h : VoX vb N S F w) (r : Int) : Calls Tryz.prog 19 #[.pointer (some ⟨vb, 0, none⟩), .int .i64 r] w fun e w' => e = .returned (.agg (tlyS.f (tallyOf S r)).toArray) ∧ Below w.heap.size w w' := by
  obtain ⟨gv, gd, gw, gp, FV, FD, FW, FQ, h1, h2⟩ := h
  refine (voting_Tally h1.blk r).mono fun e w' ⟨he, hb⟩ => ⟨?_, hb⟩
  rw [he]
  have e : (if (plPtr vb S.P r).isSome then (S.P r.toNat).t else tlyS.zero) = tallyOf S r := by
    unfold tallyOf
    by_cases hh : plHas S.P r
    · obtain ⟨k, -, -, -, hp⟩ := plPtr_has (vb := vb) hh
      rw [hp, if_pos hh]; rfl
    · rw [plPtr_none hh, if_neg hh]; rfl
  rw [e]; rfl
/-- Until when an ongoing referendum is confirmed from now on. -/
def cfmU (t : Trk) (tl : Tl) (is : Int) (x : Rfm) (now : Int) : Int :=
  if x.si = -1 ∨ passB t tl.a tl.n tl.s is (now - x.si) = false then -1 else if x.un = -1 then now + t.conf else x.un
theorem cell_lt {w : World} {b o : Nat} {v : Value} (h : w.cell? ⟨b, o, none⟩ = some v) : b < w.heap.size := by
  cases Nat.lt_or_ge b w.heap.size with
  | inl h' => exact h'
  | inr h' => rw [World.cell?, Array.getElem?_eq_none h'] at h; cases h
def allocTrk (h : Bool) (v : Value) : Sem Value := Instr.alloc 26 h v
theorem alloc_trk (h : Bool) (v : Value) : Instr.alloc 26 h v = allocTrk h v := rfl
theorem zeroTrk : ∃ Z : Array Value, ((Tryz.prog.info? 26).bind (·.zero)) = some (.agg Z) ∧ Z.size = 18 := by
  obtain ⟨i0, z, b, h1, h2, h3, h4, -⟩ := trackInfo
  exact ⟨z, by rw [h1]; exact h2, h4⟩
theorem run_allocTrk {Z : Array Value} (hz : ((Tryz.prog.info? 26).bind (·.zero)) = some (.agg Z)) (v : Value) (w : World) : (allocTrk true v).run Tryz.prog w = .ok (.pointer (some ⟨w.heap.size, 0, none⟩)) (w.alloc (.cells Z 26)) := by
  obtain ⟨i0, hi, hz0⟩ := Option.bind_eq_some_iff.1 hz
  unfold allocTrk
  simp [Instr.alloc, zeroValue, typeInfo, hi, hz0, newVar, newRow, Value.cells, go_sem]
def loadTrk (v : Value) : Sem Value := Instr.loadAt 26 v
theorem load_trk (v : Value) : Instr.loadAt 26 v = loadTrk v := rfl
theorem run_loadTrk {w : World} {b o : Nat} {t : Trk} (h : w.rangeAt b o (trkR.f t)) : (loadTrk (.pointer (some ⟨b, o, none⟩))).run Tryz.prog w = .ok (.agg (trkR.f t).toArray) w := run_loadR (r := trkR) h
def storeTrk (p v : Value) : Sem Unit := Instr.storeAt 26 p v
theorem store_trk (p v : Value) : Instr.storeAt 26 p v = storeTrk p v := rfl
theorem run_storeTrk {w : World} {b : Nat} {t : Trk} {C : Array Value} (hh : w.heap[b]? = some (.cells C 26 (0, 0))) (hC : C.size = 18) : (storeTrk (.pointer (some ⟨b, 0, none⟩)) (.agg (trkR.f t).toArray)).run Tryz.prog w = .ok () (w.setRow b (trkR.f t).toArray) := run_storeR (r := trkR) hh hC
set_option maxRecDepth 100000 in
set_option maxHeartbeats 4000000 in
attribute [local go_sem ↓] alloc_trk load_trk store_trk in
theorem refer_confirming {r g vb N : Nat} {ts : List Trk} {R : List Rfm} {S : Vs} {A : Acc} {M : Cls Int} {Z : FP} {w : World} (h : RvAt r g vb N ts R S A M Z w) (ref : Int) (x : Rfm) {k : Nat} (hk : k < ts.length) (htr : x.tr = k) {now : Int} (hn : soon now) (hsi : soon x.si) (hle : x.si ≤ now) (hok : trackB (ts[k]) = true) (hf : x.si ≠ -1 → Fits10 (tallyOf S ref).a (tallyOf S ref).n (tallyOf S ref).s (sumTo A 10)) :
    Calls Tryz.prog 58 #[.pointer (some ⟨r, 0, none⟩), .pointer (some ⟨g, 0, none⟩), .pointer (some ⟨vb, 0, none⟩), .int .i64 ref, .agg (rfS.f x).toArray, .int .i64 now] w fun e w' => e = .returned (.int .i64 (cfmU ts[k] (tallyOf S ref) (sumTo A 10) x now)) ∧ Below w.heap.size w w' := by
  obtain ⟨W0, hW0⟩ : ∃ W0, W0 = w.alloc (.cells (rfS.f x).toArray 56) := ⟨_, rfl⟩
  have hB0 : Below w.heap.size w W0 := by rw [hW0]; exact (Below.refl _ w).alloc (Nat.le_refl _) _
  obtain ⟨rb, hrb⟩ : ∃ rb, rb = w.heap.size := ⟨_, rfl⟩
  obtain ⟨FR, hre, -⟩ := (h.below hB0).re
  obtain ⟨F, hvo, -⟩ := (h.below hB0).vo
  obtain ⟨FL, hld, -⟩ := (h.below hB0).ld
  obtain ⟨tb, cap, gb, c0, -, htb, htl⟩ := hre.cells
  have hrl : r < W0.heap.size := hre.lt hre.own
  have hx : W0.rangeAt rb 0 (rfF x) := by rw [hW0, hrb]; exact atS rfS w x
  have hrbl : rb < W0.heap.size := by rw [hW0, hrb]; simp
  obtain ⟨t, ht⟩ : ∃ t, t = ts[k] := ⟨_, rfl⟩
  have hrt := trk_at htb hk
  rw [← ht] at hrt hok ⊢
  obtain ⟨tl, htl'⟩ : ∃ tl, tl = tallyOf S ref := ⟨_, rfl⟩
  obtain ⟨is, his⟩ : ∃ is, is = sumTo A 10 := ⟨_, rfl⟩
  obtain ⟨EE, hEE⟩ : ∃ E, E = cfmU t tl is x now := ⟨_, rfl⟩
  rw [← htl', ← his] at hf ⊢
  rw [← hEE]
  obtain ⟨n, hn'⟩ : ∃ n, n = ts.length := ⟨_, rfl⟩
  rw [← hn'] at c0 hk
  have hkI : (k : Int) < n := by omega
  obtain ⟨Zt, hZt, hZs⟩ := zeroTrk
  have RA := run_allocTrk hZt
  obtain ⟨x0, x1, x34, x35, x36, x37, x38, x39, x40, x41⟩ := rf_at hx
  rw [htr] at x1
  have hkr : ∀ W' : World, (∀ j, j < W0.heap.size → W'.heap[j]? = W0.heap[j]?) → W'.cell? ⟨r, 0, none⟩ = some (.slice (some ⟨tb, 0, none⟩) n cap) ∧ W'.cell? ⟨rb, 1, none⟩ = some (.int .i64 k) ∧ (loadTrk (.pointer (some ⟨tb, k * 18, none⟩))).run Tryz.prog W' = .ok (.agg (trkR.f t).toArray) W' := fun W' he =>
    ⟨(World.cell?_of_block (a := ⟨r, 0, none⟩) (he r hrl)).trans c0, (World.cell?_of_block (a := ⟨rb, 1, none⟩) (he rb hrbl)).trans x1, run_loadTrk (rangeAt_block hrt (he tb htl))⟩
  have HKR := Lib.hid hkr
  have ST1 := run_storeTrk (w := (W0.alloc (.cells Zt 26)).drew) (b := W0.heap.size) (t := t) (World.alloc_heap_new W0 _) hZs
  have hb1 : Below W0.heap.size W0 ((W0.alloc (.cells Zt 26)).drew.setRow W0.heap.size (trkR.f t).toArray) := ⟨rfl, rfl, rfl, by simp [World.setRow, World.drew], fun j hj => (setRow_other _ _ _ _ (by omega)).trans (Below.heap_alloc _ _ _ hj)⟩
  have hr1 : ((W0.alloc (.cells Zt 26)).drew.setRow W0.heap.size (trkR.f t).toArray).rangeAt W0.heap.size 0 (trkR.f t) := rangeAt_whole (T := 26) (setRow_heap _ _ _ _ _ _ (World.alloc_heap_new W0 _))
  have K0 := Lib.hid (HKR.out W0.drew (fun _ _ => rfl))
  have K1 := Lib.hid (HKR.out (W0.alloc (.cells Zt 26)).drew (fun j hj => Below.heap_alloc _ _ _ hj))
  have K2 := Lib.hid (HKR.out _ (fun j hj => hb1.block j hj))
  have HB1 := Lib.hid (And.intro hb1 hr1)
  have HX := Lib.hid (And.intro hx (And.intro hrbl (And.intro hB0 (And.intro hre (And.intro hvo hld)))))
  have HW0 := Lib.hid (And.intro hW0 hrb)
  have HH := Lib.hid (And.intro htl' (And.intro his (And.intro hEE (And.intro hf (And.intro hle (And.intro hok (And.intro hn hsi)))))))
  clear h hre hvo hld htb htl hrl hx x0 x34 x35 x36 x37 x38 x39 x40 x41 hrt hkr hb1 hr1 hrbl hB0 hW0 hrb htl' his hEE hf hle hok hn hsi hn' ht htr hk hZt hZs x1 c0
  go_enter Tryz.func58, Tryz.ntmps58
  go_upto_region 1 with fail
  rw [← HW0.out.1, ← HW0.out.2]
  have mixed : Tryz.prog.follows .mixedOrders = true := by kernel_rfl
  go_region_held3 (fun w' => w'.cell? ⟨r, 0, none⟩ = some (.slice (some ⟨tb, 0, none⟩) n cap) ∧ w'.cell? ⟨rb, 1, none⟩ = some (.int .i64 k) ∧ (loadTrk (.pointer (some ⟨tb, k * 18, none⟩))).run Tryz.prog w' = .ok (.agg (trkR.f t).toArray) w') (first | exact K0.out | exact K1.out | exact K2.out) (fail)
  obtain ⟨W1, hW1⟩ : ∃ W1, W1 = (W0.alloc (.cells Zt 26)).drew.setRow W0.heap.size (trkR.f t).toArray := ⟨_, rfl⟩
  obtain ⟨b8, hb8⟩ : ∃ b8, b8 = W0.heap.size := ⟨_, rfl⟩
  rw [← hW1, ← hb8]
  obtain ⟨hb1, hr1⟩ := HB1.out
  rw [← hW1] at hb1 hr1
  rw [← hb8] at hr1
  obtain ⟨hx, hrbl, hB0, hre, hvo, hld⟩ := HX.out
  obtain ⟨htl', his, hEE, hf, hle, hok, hn, hsi⟩ := HH.out
  have hb8l : b8 < W1.heap.size := by have := hr1 0 _ (show (trkR.f t)[0]? = some (.int .i64 t.most) from rfl); exact cell_lt this
  have hkr : ∀ W' : World, Below W1.heap.size W1 W' → W'.cell? ⟨rb, 39, none⟩ = some (.int .i64 x.si) ∧ W'.cell? ⟨rb, 40, none⟩ = some (.int .i64 x.un) ∧ W'.cell? ⟨b8, 4, none⟩ = some (.int .i64 t.conf) ∧ (loadTrk (.pointer (some ⟨b8, 0, none⟩))).run Tryz.prog W' = .ok (.agg (trkR.f t).toArray) W' := fun W' hb => by
    have hx1 : W1.rangeAt rb 0 (rfF x) := rangeAt_block hx (hb1.block rb hrbl)
    have hrbl1 : rb < W1.heap.size := Nat.lt_of_lt_of_le hrbl hb1.size
    obtain ⟨-, -, -, -, -, -, -, x39, x40, -⟩ := rf_at (rangeAt_block hx1 (hb.block rb hrbl1))
    have hr2 := rangeAt_block hr1 (hb.block b8 hb8l)
    exact ⟨x39, x40, by have := hr2 4 _ (show (trkR.f t)[4]? = some (.int .i64 t.conf) from rfl); rwa [Nat.zero_add] at this, run_loadTrk hr2⟩
  obtain ⟨y39, y40, y4, yl⟩ := hkr W1 (Below.refl _ _)
  have hT : ∀ W', Below W1.heap.size W1 W' → Calls Tryz.prog 19 #[.pointer (some ⟨vb, 0, none⟩), .int .i64 ref] W' fun e w' => e = .returned (.agg (tlyS.f tl).toArray) ∧ Below W'.heap.size W' w' := fun W' hb => by rw [htl']; exact ((hvo.below hb1).below hb).Tally ref
  have hI : ∀ W', Below W1.heap.size W1 W' → Calls Tryz.prog 72 #[.pointer (some ⟨g, 0, none⟩)] W' fun e w' => e = .returned (.int .i64 is) ∧ Below W'.heap.size W' w' := fun W' hb => by rw [his]; exact ledger_IssuedX ((hld.below hb1).below hb)
  obtain ⟨si, hsi'⟩ : ∃ si, si = x.si := ⟨_, rfl⟩
  obtain ⟨un, hun'⟩ : ∃ un, un = x.un := ⟨_, rfl⟩
  obtain ⟨cf, hcf⟩ : ∃ cf, cf = t.conf := ⟨_, rfl⟩
  unfold cfmU at hEE
  rw [← hsi'] at y39 hsi hle hf hEE
  rw [← hun'] at y40 hEE
  rw [← hcf] at y4 hEE
  rw [← hsi', ← hun', ← hcf] at hkr
  have hcf2 : 0 ≤ cf ∧ cf ≤ 1000 := by
    rw [hcf]
    simp only [trackB, Bool.and_eq_true] at hok
    exact withinB_out hok.1.1.1.1.1.2
  unfold soon at hn hsi
  have wr1 : IntKind.i64.wrap (now - si) = now - si := IntWalk.i64_in _ (by omega)
  have wr2 : IntKind.i64.wrap (now + cf) = now + cf := IntWalk.i64_in _ (by omega)
  have hP : si ≠ -1 → ∀ W', Calls Tryz.prog 98 #[.agg (trkR.f t).toArray, .agg (tlyS.f tl).toArray, .int .i64 is, .int .i64 (now - si)] W' fun e w' => e = .returned (.bool (passB t tl.a tl.n tl.s is (now - si))) ∧ Below W'.heap.size W' w' := fun q W' => track_Passing t tl.a tl.n tl.s is (now - si) W' (hf q) hok (by omega)
  have hBW : ∀ W', Below W1.heap.size W1 W' → Below w.heap.size w W' := fun W' hb => hB0.trans ((hb1.trans (hb.mono hb1.size)).mono hB0.size)
  have fin : ∀ (E : Int) (W' : World), Below W1.heap.size W1 W' → EE = E → Ending.returned (.int .i64 E) = .returned (.int .i64 EE) ∧ Below w.heap.size w W' := fun E W' hb h => ⟨by rw [h], hBW W' hb⟩
  have FIN := Lib.hid fin
  have HKR2 := Lib.hid hkr
  have HT := Lib.hid hT
  have HI := Lib.hid hI
  have HP := Lib.hid hP
  have HEE := Lib.hid hEE
  have HN := Lib.hid (And.intro hle (And.intro hn hsi))
  clear hb1 hr1 hx hrbl hB0 hre hvo hld htl' his hEE hf hle hok hn hsi hkr hT hI hP hBW fin hsi' hun' hcf hb8l hcf2 hW1 hb8 K0 K1 K2 ST1 RA HKR yl
  by_cases q1 : si = -1
  · have b1 : (si == -1) = true := by simp [q1]
    have HQ := Lib.hid q1
    clear q1
    go_wp2_with fail
    go_quiet (fail)
    go_wp2_with fail
    go_ret
    exact FIN.out _ _ (by first | exact below_dn (Below.refl _ _) _ | exact below_dn (below_dn (Below.refl _ _) _) _) (by rw [HEE.out, if_pos (.inl HQ.out)])
  · have b1 : (si == -1) = false := by simp [q1]
    have HQ := Lib.hid q1
    clear q1
    have KK0 := Lib.hid (HKR2.out W1.drew (Below.refl _ W1).drew)
    have KB0 := Lib.hid (show Below W1.heap.size W1 W1.drew from (Below.refl _ W1).drew)
    obtain ⟨ps, hps⟩ : ∃ ps, ps = passB t tl.a tl.n tl.s is (now - si) := ⟨_, rfl⟩
    rw [← hps] at HP HEE
    clear hps
    go_wp2_with fail
    go_region_held3 (fun w' => w'.cell? ⟨rb, 39, none⟩ = some (.int .i64 si) ∧ w'.cell? ⟨rb, 40, none⟩ = some (.int .i64 un) ∧ w'.cell? ⟨b8, 4, none⟩ = some (.int .i64 cf) ∧ (loadTrk (.pointer (some ⟨b8, 0, none⟩))).run Tryz.prog w' = .ok (.agg (trkR.f t).toArray) w') (first | exact KK0.out | exact KK1.out | exact KK2.out | exact KK3.out) (first
      | (go_at_call 19; refine (HT.out _ KB0.out).mono ?_; rintro e w2 ⟨rfl, hb⟩; have KB1 := Lib.hid (KB0.out.trans (hb.mono KB0.out.size)); have KK1 := Lib.hid (HKR2.out _ KB1.out); clear hb)
      | (go_at_call 72; refine (HI.out _ KB1.out).mono ?_; rintro e w3 ⟨rfl, hb⟩; have KB2 := Lib.hid (KB1.out.trans (hb.mono KB1.out.size)); have KK2 := Lib.hid (HKR2.out _ KB2.out); clear hb)
      | (go_at_call 98; refine (HP.out HQ.out _).mono ?_; rintro e w4 ⟨rfl, hb⟩; have KB3 := Lib.hid (KB2.out.trans (hb.mono KB2.out.size)); have KK3 := Lib.hid (HKR2.out _ KB3.out); clear hb)
      | fail)
    cases ps
    · go_wp2_with fail
      go_ret
      exact FIN.out _ _ KB3.out (by rw [HEE.out, if_pos (.inr (by first | rfl | trivial))])
    · by_cases q2 : un = -1
      · have b2 : (un == -1) = true := by simp [q2]
        have HQ2 := Lib.hid q2
        clear q2
        obtain ⟨-, z40, z4, -⟩ := KK3.out
        go_wp2_with fail
        go_ret
        exact FIN.out _ _ KB3.out (by rw [HEE.out, if_neg (fun h => h.elim HQ.out (fun h => by cases h)), if_pos HQ2.out])
      · have b2 : (un == -1) = false := by simp [q2]
        have HQ2 := Lib.hid q2
        clear q2
        obtain ⟨-, z40, z4, -⟩ := KK3.out
        go_wp2_with fail
        go_ret
        exact FIN.out _ _ KB3.out (by rw [HEE.out, if_neg (fun h => h.elim HQ.out (fun h => by cases h)), if_neg HQ2.out])
end Go.Proofs.YtpkamfbjgdmmoaaGreat
end

section
namespace Go.Proofs.YtpkamfbjgdmmoaaGreat
open Go.RowKit
set_option linter.unusedVariables false
set_option linter.unusedSimpArgs false

/-- A call's numbers, and its row of calls. -/
abbrev Lf := Int × Int × Int × Option Addr × Nat × Nat
def lfL (x : Lf) : List Value := [.int .i64 x.1, .int .i64 x.2.1, .int .i64 x.2.2.1, .slice x.2.2.2.1 x.2.2.2.2.1 x.2.2.2.2.2]
/-- An event's numbers. -/
abbrev Ev := Int × Int × Int
def evL (x : Ev) : List Value := [.int .i64 x.1, .int .i64 x.2.1, .int .i64 x.2.2]
theorem eventInfo : (Tryz.prog.info? 68).map (fun i => (i.zero, i.size, i.bytes)) = some (some (.agg #[.int .i64 0, .int .i64 0, .int .i64 0]), 3, 24) := by kernel_rfl
def evR : RowTy Tryz.prog Ev where
  T := 68
  S := 48
  k := 3
  f := evL
  len := fun _ => rfl
  one := fun x u hu => by
    simp only [evL, List.mem_cons, List.not_mem_nil, or_false] at hu
    rcases hu with rfl | rfl | rfl <;> rfl
  pos := by decide
  small := by decide
  slice := Tryz.underlying48
  info := by
    obtain ⟨i0, hi, hz⟩ := Option.map_eq_some_iff.1 eventInfo
    simp only [Prod.mk.injEq] at hz
    obtain ⟨h1, h2, h3⟩ := hz
    exact ⟨i0, _, _, hi, h1, h2, rfl, h3, by decide⟩
  row := ⟨_, Tryz.underlying68, rfl⟩
end Go.Proofs.YtpkamfbjgdmmoaaGreat
end

section
namespace Go.Proofs.YtpkamfbjgdmmoaaGreat
open Go.RowKit Go.Maps Go.Shelf
set_option linter.unusedVariables false
set_option linter.unusedSimpArgs false

/-- A referendum that has ended. -/
def endX (x : Rfm) (st now : Int) (t : Tl) : Rfm := { x with st := st, en := now, ay := t.a, na := t.n, su := t.s }
theorem set_tail34 {p t : List Value} (hp : p.length = 34) (n : Nat) (v : Value) : (p ++ t).set (n + 34) v = p ++ t.set n v := by
  rw [List.set_append_right (n + 34) v (by omega)]; simp [hp]
def rfP (x : Rfm) : List Value := .int .i64 x.st :: .int .i64 x.tr :: hsB x.h
def rfT (x : Rfm) : List Value := [.int .i64 x.af, .int .i64 x.sb, .int .i64 x.who, .bool x.put, .int .i64 x.bk, .int .i64 x.si, .int .i64 x.un, .int .i64 x.en, .int .i64 x.ay, .int .i64 x.na, .int .i64 x.su]
theorem rfP_len (x : Rfm) : (rfP x).length = 34 := by simp [rfP, hsB_len, x.ok]
theorem rfF_eq (x : Rfm) : rfF x = rfP x ++ rfT x := rfl
theorem rfF_set (x : Rfm) (n : Nat) (v : Value) : (rfF x).set (n + 34) v = rfP x ++ (rfT x).set n v := by rw [rfF_eq, set_tail34 (rfP_len x)]
theorem rf_set_si (x : Rfm) (v : Int) : (rfF x).set 39 (.int .i64 v) = rfF { x with si := v } := rfF_set x 5 _
theorem rf_set_un (x : Rfm) (v : Int) : (rfF x).set 40 (.int .i64 v) = rfF { x with un := v } := rfF_set x 6 _
theorem rf_set_bk (x : Rfm) (v : Int) : (rfF x).set 38 (.int .i64 v) = rfF { x with bk := v } := rfF_set x 4 _
theorem rf_set_put (x : Rfm) (v : Bool) : (rfF x).set 37 (.bool v) = rfF { x with put := v } := rfF_set x 3 _
theorem rf_set_en (x : Rfm) (v : Int) : (rfF x).set 41 (.int .i64 v) = rfF { x with en := v } := rfF_set x 7 _
theorem rf_set_ay (x : Rfm) (v : Int) : (rfF x).set 42 (.int .i64 v) = rfF { x with ay := v } := rfF_set x 8 _
theorem rf_set_na (x : Rfm) (v : Int) : (rfF x).set 43 (.int .i64 v) = rfF { x with na := v } := rfF_set x 9 _
theorem rf_set_su (x : Rfm) (v : Int) : (rfF x).set 44 (.int .i64 v) = rfF { x with su := v } := rfF_set x 10 _
theorem rf_set_st (x : Rfm) (v : Int) : (rfF x).set 0 (.int .i64 v) = rfF { x with st := v } := rfl
/-- A referendum's place. -/
abbrev RfBox (w : World) (b : Nat) (x : Rfm) : Prop := w.heap[b]? = some (.cells (rfF x).toArray 56 (0, 0))
theorem RfBox.frozen {w : World} {b : Nat} {x : Rfm} (h : RfBox w b x) (i : Nat) : w.frozen? ⟨b, i, none⟩ = false := by simp [World.frozen?, h]
theorem RfBox.range {w : World} {b : Nat} {x : Rfm} (h : RfBox w b x) : w.rangeAt b 0 (rfF x) := rangeAt_whole (T := 56) h
theorem RfBox.lt {w : World} {b : Nat} {x : Rfm} (h : RfBox w b x) : b < w.heap.size := (Array.getElem?_eq_some_iff.1 h).1
theorem RfBox.cell {w : World} {b : Nat} {x : Rfm} (h : RfBox w b x) {i : Nat} {v : Value} (hi : (rfF x)[i]? = some v) : w.cell? ⟨b, i, none⟩ = some v := cell_of h hi
theorem RfBox.set {w : World} {b : Nat} {x y : Rfm} (h : RfBox w b x) {i : Nat} {v : Value} (hi : (rfF x).set i v = rfF y) : RfBox (w.setCell ⟨b, i, none⟩ v) b y := by
  unfold RfBox; rw [← hi]; exact setCell_at h
theorem RfBox.there {w : World} {b : Nat} {x : Rfm} (h : RfBox w b x) {k n : Nat} (hk : k + n ≤ 45) : w.there b k n := fun i hi => by
  refine ⟨?_, h.frozen _⟩
  have : k + i < (rfF x).length := by rw [rfF_len]; omega
  rw [h.cell (List.getElem?_eq_getElem this)]; rfl
theorem RfBox.ended {w : World} {b : Nat} {x : Rfm} (h : RfBox w b x) (st now : Int) (t : Tl) : RfBox (((w.setCell ⟨b, 0, none⟩ (.int .i64 st)).setCell ⟨b, 41, none⟩ (.int .i64 now)).setCells b 42 (tlyS.f t)) b (endX x st now t) := by
  have h1 := h.set (rf_set_st x st)
  have h2 := h1.set (rf_set_en _ now)
  have h3 := h2.set (rf_set_ay _ t.a)
  have h4 := h3.set (rf_set_na _ t.n)
  exact h4.set (rf_set_su _ t.s)
set_option maxRecDepth 100000 in
theorem refer_slash {g N : Nat} {A : Acc} {M : Cls Int} {FL : FP} {w : World} (h : LdX g N A M FL w) (a n : Int) : Calls Tryz.prog 67 #[.pointer (some ⟨g, 0, none⟩), .int .i64 a, .int .i64 n] w fun e w' => e = .returned (.agg (evR.f (6, a, heldM A a n)).toArray) ∧ LdTo g N (unheld A a n 0) M FL w w' := by
  have hN := h.size
  obtain ⟨rb, hrb⟩ : ∃ rb, rb = w.heap.size := ⟨_, rfl⟩
  obtain ⟨m, hm⟩ : ∃ m, m = heldM A a n := ⟨_, rfl⟩
  obtain ⟨A', hA'⟩ : ∃ A', A' = unheld A a n 0 := ⟨_, rfl⟩
  have hs : ∀ C, Calls Tryz.prog 104 #[.pointer (some ⟨g, 0, none⟩), .int .i64 a, .int .i64 n] (w.alloc (.cells C 68)) fun e w' => e = .returned (.int .i64 m) ∧ w'.heap[rb]? = some (.cells C 68 (0, 0)) ∧ ∀ cs, LdTo g N A' M FL w (w'.setRow rb cs) := fun C => by
    have hb : Below w.heap.size w (w.alloc (.cells C 68)) := (Below.refl _ w).alloc (Nat.le_refl _) _
    have h1 := h.below hb
    rw [hm, hA']
    refine (ledger_SlashX h1 a n).mono ?_
    rintro e w' ⟨he, F', k1, k2, k3⟩
    have hrF : ¬ FL rb := fun hf => by have := h.lt hf; omega
    have hrF' : ¬ F' rb := fun hf => (k2 rb hf).elim hrF (fun e => by rw [World.size_alloc] at e; omega)
    have hsz := k3.grow.size
    rw [World.size_alloc] at hsz
    refine ⟨he, (k3.block rb (by rw [World.size_alloc]; omega) hrF (fun h => h)).trans (by rw [hrb]; exact World.alloc_heap_new w _), fun cs => ⟨F', k1.keep ⟨rfl, rfl, rfl, by simp [World.setRow]⟩ (fun k hk => setRow_other _ _ _ _ (fun e => hrF' (e ▸ hk))), fun k hk => (k2 k hk).imp id (fun e => by rw [World.size_alloc] at e; omega), ?_⟩⟩
    exact ⟨((Grow.of_below hb).trans k3.grow).trans ⟨rfl, rfl, rfl, by simp [World.setRow]⟩, fun k hk h1 h2 => (setRow_other _ _ _ _ (by omega)).trans ((k3.block k (by rw [World.size_alloc]; omega) h1 h2).trans (hb.block k hk))⟩
  rw [← hm, ← hA']
  have HS := Lib.hid hs
  have HR := Lib.hid hrb
  clear h hN hm hA' hs hrb
  go_enter Tryz.func67, Tryz.ntmps67
  go_upto_region 1 with (first | (refine wpl_allocR (r := evR) (ty := 68) rfl rfl rfl ?_; intro C hC; have HC := Lib.hid hC; clear hC) | fail)
  rw [← HR.out]
  go_wp2_with (first
    | (go_at_call 104; refine (HS.out C).mono ?_; rintro e w2 ⟨rfl, hz, hto⟩; have H2 := Lib.hid (And.intro hz hto); clear hz hto)
    | (refine wpl_storeR (r := evR) (ty := 68) (t := (6, a, m)) (C := C) (b := rb) _ _ rfl rfl rfl rfl rfl H2.out.1 HC.out ?_)
    | fail)
  exact bodyPost_ret (v := .agg (evR.f (6, a, m)).toArray) (results_R1 (r := evR) (t := (6, a, m)) (b := rb) Tryz.results67 rfl (rangeAt_whole (T := 68) (setRow_heap _ _ _ _ _ _ H2.out.1))) rfl ⟨rfl, H2.out.2 _⟩
end Go.Proofs.YtpkamfbjgdmmoaaGreat
end

section
namespace Go.Proofs.YtpkamfbjgdmmoaaGreat
open Go.RowKit Go.Maps Go.Shelf
set_option linter.unusedVariables false
set_option linter.unusedSimpArgs false

/-- What ending leaves: refer's, the poll's; the place that was handed in. -/
def EndTo (r g vb N : Nat) (ts : List Trk) (R : List Rfm) (S : Vs) (A : Acc) (M : Cls Int) (Z : FP) (xb : Nat) (y : Rfm) (w w' : World) : Prop :=
  ∃ Z', RvAt r g vb N ts R S A M Z' w' ∧ (∀ j, Z' j → Z j ∨ w.heap.size ≤ j) ∧ Only (fun j => Z j ∨ j = xb) (fun _ => False) w w' ∧ RfBox w' xb y
set_option maxRecDepth 100000 in
set_option maxHeartbeats 4000000 in
attribute [local go_sem ↓] loadSt_R_hide storeT_hide in
theorem refer_end {r g vb N : Nat} {ts : List Trk} {R : List Rfm} {S : Vs} {A : Acc} {M : Cls Int} {Z : FP} {w : World} (h : RvAt r g vb N ts R S A M Z w) {k : Nat} (hk : k < R.length) (hl : R.length ≤ 12) {xb : Nat} {x : Rfm} (hx : RfBox w xb x) (hz : ¬ Z xb) (st now : Int) :
    Calls Tryz.prog 60 #[.pointer (some ⟨r, 0, none⟩), .pointer (some ⟨vb, 0, none⟩), .int .i64 k, .pointer (some ⟨xb, 0, none⟩), .int .i64 st, .int .i64 now] w fun e w' => e = .returned (.agg (evR.f (1, (k : Int), st)).toArray) ∧ EndTo r g vb N ts (R.set k (endX x st now (tallyOf S k))) (closeS S k st now) A M Z xb (endX x st now (tallyOf S k)) w w' := by
  obtain ⟨rb, hrb⟩ : ∃ rb, rb = w.heap.size := ⟨_, rfl⟩
  obtain ⟨t, ht⟩ : ∃ t, t = tallyOf S k := ⟨_, rfl⟩
  obtain ⟨y, hy⟩ : ∃ y, y = endX x st now t := ⟨_, rfl⟩
  have hxl := hx.lt
  have hrbx : rb ≠ xb := by omega
  have hrbZ : ¬ Z rb := fun hf => by have := h.lt hf; omega
  rw [← ht, ← hy]
  have step : ∀ C, C.size = 3 → ∃ W0, W0 = w.alloc (.cells C 68) ∧ Calls Tryz.prog 19 #[.pointer (some ⟨vb, 0, none⟩), .int .i64 k] W0 fun e w2 => e = .returned (.agg (tlyS.f t).toArray) ∧
      (w2.cell? ⟨xb, 0, none⟩ = some (.int .i64 x.st) ∧ w2.cell? ⟨xb, 41, none⟩ = some (.int .i64 x.en) ∧ (∀ i, w2.frozen? ⟨xb, i, none⟩ = false)) ∧
      (storeT (.pointer (some ⟨xb, 42, none⟩)) (.agg (tlyS.f t).toArray)).run Tryz.prog ((w2.setCell ⟨xb, 0, none⟩ (.int .i64 st)).setCell ⟨xb, 41, none⟩ (.int .i64 now)) = .ok () (((w2.setCell ⟨xb, 0, none⟩ (.int .i64 st)).setCell ⟨xb, 41, none⟩ (.int .i64 now)).setCells xb 42 (tlyS.f t)) ∧
      ∃ W3, W3 = ((w2.setCell ⟨xb, 0, none⟩ (.int .i64 st)).setCell ⟨xb, 41, none⟩ (.int .i64 now)).setCells xb 42 (tlyS.f t) ∧ RfBox W3 xb y ∧ W3.heap[rb]? = some (.cells C 68 (0, 0)) ∧ RvAt r g vb N ts R S A M Z W3 ∧ Grow w W3 ∧ (∀ j, j < w.heap.size → j ≠ xb → W3.heap[j]? = w.heap[j]?) ∧ rb < W3.heap.size := fun C hC => by
    refine ⟨_, rfl, ?_⟩
    have hb0 : Below w.heap.size w (w.alloc (.cells C 68)) := (Below.refl _ w).alloc (Nat.le_refl _) _
    obtain ⟨F, hvo, -⟩ := (h.below hb0).vo
    refine (hvo.Tally k).mono ?_
    rintro e w2 ⟨he, hb2⟩
    have hb02 : Below w.heap.size w w2 := hb0.trans (hb2.mono hb0.size)
    have hx2 : RfBox w2 xb x := (hb02.block xb hxl).trans hx
    have h12 := (hx2.set (rf_set_st x st)).set (rf_set_en _ now)
    have hrb2 : w2.heap[rb]? = some (.cells C 68 (0, 0)) := (hb2.block rb (by rw [World.size_alloc]; omega)).trans (by rw [hrb]; exact World.alloc_heap_new w _)
    have hoff : ∀ j, j ≠ xb → (((w2.setCell ⟨xb, 0, none⟩ (.int .i64 st)).setCell ⟨xb, 41, none⟩ (.int .i64 now)).setCells xb 42 (tlyS.f t)).heap[j]? = w2.heap[j]? := fun j hj => (setCells_off hj _ _ _).trans ((Below.heap_setCell _ _ _ j hj).trans (Below.heap_setCell _ _ _ j hj))
    have hgr : Grow w2 (((w2.setCell ⟨xb, 0, none⟩ (.int .i64 st)).setCell ⟨xb, 41, none⟩ (.int .i64 now)).setCells xb 42 (tlyS.f t)) := (show Grow w2 ((w2.setCell ⟨xb, 0, none⟩ (.int .i64 st)).setCell ⟨xb, 41, none⟩ (.int .i64 now)) from ⟨rfl, rfl, rfl, by simp [World.setCell]⟩).trans (setCells_grow _ _ _)
    refine ⟨by rw [he, ht], ⟨(rf_at hx2.range).1, (rf_at hx2.range).2.2.2.2.2.2.2.2.2, fun i => hx2.frozen i⟩, run_storeT (h12.there (by omega)) t, _, rfl, ?_, (hoff rb hrbx).trans hrb2, (h.below hb02).keep hgr (fun j hj => hoff j (fun e => hz (e ▸ hj))), (Grow.of_below hb02).trans hgr, fun j hj hjx => (hoff j hjx).trans (hb02.block j hj), ?_⟩
    · rw [hy]; exact hx2.ended st now t
    · exact Nat.lt_of_lt_of_le (Array.getElem?_eq_some_iff.1 hrb2).1 hgr.size
  have rest : ∀ (C : Array Value) (W3 : World), C.size = 3 → RfBox W3 xb y → W3.heap[rb]? = some (.cells C 68 (0, 0)) → RvAt r g vb N ts R S A M Z W3 → Grow w W3 → (∀ j, j < w.heap.size → j ≠ xb → W3.heap[j]? = w.heap[j]?) → rb < W3.heap.size →
      Calls Tryz.prog 82 #[.pointer (some ⟨vb, 0, none⟩), .int .i64 k, .int .i64 st, .int .i64 now] W3 fun e w4 => (∃ E, e = .returned (.int .i64 E)) ∧ (loadSt_R (.pointer (some ⟨xb, 0, none⟩))).run Tryz.prog w4 = .ok (.agg (rfS.f y).toArray) w4 ∧
        Calls Tryz.prog 41 #[.pointer (some ⟨r, 0, none⟩), .int .i64 k, .agg (rfS.f y).toArray] w4 fun e w5 => e = .returned (.tuple #[]) ∧ w5.heap[rb]? = some (.cells C 68 (0, 0)) ∧ EndTo r g vb N ts (R.set k y) (closeS S k st now) A M Z xb y w (w5.setRow rb (evR.f (1, (k : Int), st)).toArray) := by
    intro C W3 hC hx3 hr3 h3 hg3 ho3 hl3
    obtain ⟨F, hvo, lift⟩ := h3.vo
    refine (hvo.Close k st now).mono ?_
    rintro e w4 ⟨he, hto⟩
    have ht4 := lift _ _ hto
    have hx4 : RfBox w4 xb y := (ht4.old hx3.lt hz).trans hx3
    have hr4 := (ht4.old hl3 hrbZ).trans hr3
    obtain ⟨FR, hre, lift2⟩ := ht4.re
    refine ⟨⟨_, he⟩, run_loadSt_R hx4.range, (refer_set hre hre.size (R' := R.set k y) (by omega) (by omega) y (by rw [if_pos hk])).mono ?_⟩
    rintro e w5 ⟨he5, hto5⟩
    have ht5 := lift2 _ _ hto5
    have hx5 : RfBox w5 xb y := (ht5.old hx3.lt hz).trans hx3
    have hr5 := (ht5.old hl3 hrbZ).trans hr3
    obtain ⟨Z', q1, q2, q3⟩ := ht5
    have hrZ' : ¬ Z' rb := fun hf => (q2 rb hf).elim hrbZ (fun e => by omega)
    have hg5 : Grow w5 (w5.setRow rb (evR.f (1, (k : Int), st)).toArray) := ⟨rfl, rfl, rfl, by simp [World.setRow]⟩
    refine ⟨he5, hr5, Z', q1.keep hg5 (fun j hj => setRow_other _ _ _ _ (fun e => hrZ' (e ▸ hj))), fun j hj => (q2 j hj).imp id (fun e => Nat.le_trans hg3.size e), ⟨(hg3.trans q3.grow).trans hg5, fun j hj h1 h2 => ?_⟩, (setRow_other _ _ _ _ hrbx.symm).trans hx5⟩
    exact (setRow_other _ _ _ _ (by omega)).trans ((q3.block j (Nat.lt_of_lt_of_le hj hg3.size) (fun e => h1 (.inl e)) (fun h => h)).trans (ho3 j hj (fun e => h1 (.inr e))))
  have HS := Lib.hid step
  have HR := Lib.hid rest
  have HRB := Lib.hid hrb
  clear step rest hrb ht hy hxl hrbx hrbZ h hk hl hx hz
  go_enter Tryz.func60, Tryz.ntmps60
  go_upto_region 1 with (first | (refine wpl_allocR (r := evR) (ty := 68) rfl rfl rfl ?_; intro C hC; obtain ⟨W0, hW0, hT⟩ := HS.out C hC; rw [← hW0]; have HC := Lib.hid hC; have HT := Lib.hid hT; clear hC hW0 hT) | fail)
  rw [← HRB.out]
  go_upto_region 2 with (first
    | (go_at_call 19; refine HT.out.mono ?_; rintro e w2 ⟨rfl, ⟨c0, c41, fz⟩, rs, W3, hW3, hrest⟩; have H3 := Lib.hid hrest; have HW3 := Lib.hid hW3; clear hrest hW3)
    | fail)
  rw [← HW3.out]
  have HR3 := Lib.hid (HR.out C W3 HC.out H3.out.1 H3.out.2.1 H3.out.2.2.1 H3.out.2.2.2.1 H3.out.2.2.2.2.1 H3.out.2.2.2.2.2)
  clear c0 c41 fz rs
  go_wp2_with (first
    | (go_at_call 82; refine HR3.out.mono ?_; rintro e w4 ⟨⟨E, rfl⟩, lx, hset⟩; have HSET := Lib.hid hset; clear hset)
    | (go_at_call 41; refine HSET.out.mono ?_; rintro e w5 ⟨rfl, hr5, hto⟩; have H5 := Lib.hid (And.intro hr5 hto); clear hr5 hto)
    | (refine wpl_storeR (r := evR) (ty := 68) (t := (1, (k : Int), st)) (C := C) (b := rb) _ _ rfl rfl rfl rfl rfl H5.out.1 HC.out ?_)
    | fail)
  exact bodyPost_ret (v := .agg (evR.f (1, (k : Int), st)).toArray) (results_R1 (r := evR) (t := (1, (k : Int), st)) (b := rb) Tryz.results60 rfl (rangeAt_whole (T := 68) (setRow_heap _ _ _ _ _ _ H5.out.1))) rfl ⟨rfl, H5.out.2⟩
end Go.Proofs.YtpkamfbjgdmmoaaGreat
end
