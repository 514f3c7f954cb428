/-
  Joined texts.
-/
import Derived.Test.YtbpemdihoabbcaaGreatMhl
namespace Go.Proofs.YtbpemdihoabbcaaGreat
set_option linter.unusedVariables false
set_option linter.unusedSimpArgs false
set_option maxRecDepth 100000
set_option maxHeartbeats 8000000
section
open Go.RowKit Go.Maps
section
variable {vy pb rb : Nat} {P P' : Nat → Pl} {R R' : Nat → Rc} {F : FP} {w w' W : World}
theorem ry_place (h : RyAt vy pb rb P R F w) {k : Nat} (hk : k < 40) (hs : SrtK (R k).c) (hl : (R k).c.length ≤ 1000) (ref : Int) : Calls Tryz.prog 91 #[.pointer (some ⟨rb, k * 9, none⟩), .int .i64 ref] w fun e w' => e = .returned (.tuple #[.int .i64 (placeN (R k).c ref), .bool (placeB (R k).c ref)]) ∧ Below w.heap.size w w' := by
 obtain ⟨v, hrd, c0, -⟩ := h.rec hk
 obtain ⟨xs, hxs⟩ : ∃ xs, xs = (R k).c := ⟨_, rfl⟩
 rw [← hxs] at hrd hs hl ⊢
 obtain ⟨ao, cap, rfl⟩ := hrd.lenOf
 obtain ⟨n, hn⟩ : ∃ n, n = xs.length := ⟨_, rfl⟩
 rw [← hn] at hrd c0 hl
 have HRD := Lib.hid (And.intro hrd hn)
 have HS := Lib.hid hs
 clear hrd hn hs hxs h
 go_enter Tryz.func91, Tryz.ntmps91
 go_wp2_with fail
 go_loopw [6] (fun i wr => ∃ j : Nat, j ≤ n ∧ i = .int .i64 j ∧ wr = w ∧ ∀ i, i < j → ∃ y, xs[i]? = some y ∧ y.1 < ref) (fun i _ => n - (intOf i).toNat)
 case atStart => exact ⟨0, by omega, rfl, rfl, fun i hi => by omega⟩
 case round =>
  obtain ⟨j, hj, rfl, rfl, hpre⟩ := hrel
  have HPRE := Lib.hid hpre
  clear hpre
  by_cases hlt : j < n
  · have g1 : (j : Int) < n := by omega
    obtain ⟨b, off, rfl, hr, hb⟩ := HRD.out.1.at (show j < xs.length by rw [← HRD.out.2]; exact hlt)
    obtain ⟨x, hx⟩ : ∃ x, x = xs[j]'(by rw [← HRD.out.2]; exact hlt) := ⟨_, rfl⟩
    rw [← hx] at hr
    have hx2 : xs[j]? = some x := by rw [hx]; exact List.getElem?_eq_getElem _
    have d0 : wr.cell? ⟨b, off + j * 7, none⟩ = some (.int .i64 x.1) := hr 0 _ rfl
    obtain ⟨z, hz⟩ : ∃ z, z = x.1 := ⟨_, rfl⟩
    rw [← hz] at d0
    have HX := Lib.hid (And.intro hx2 hz)
    clear hx hr hx2 hz hb
    by_cases hlt2 : z < ref
    · go_wp2_with fail
      go_roundw
      case rel => exact ⟨j + 1, by omega, by go_num, by first | rfl | trivial, fun i hi => by
       by_cases e : i = j
       · rw [e]; exact ⟨x, HX.out.1, by rw [← HX.out.2]; exact hlt2⟩
       · exact HPRE.out i (by omega)⟩
      case measure => simp [intOf]; omega
    · have hpl : placeN xs ref = j := placeN_is HPRE.out (fun y hy => by rw [HX.out.1] at hy; injection hy with hy; rw [← hy, ← HX.out.2]; exact hlt2)
      have hpb : placeB xs ref = (z == ref) := by
       by_cases e : z = ref
       · rw [(place_there HS.out).2 ⟨x, by rw [hpl]; exact HX.out.1, by rw [← HX.out.2]; exact e⟩]; simp [e]
       · have : ¬ placeB xs ref = true := fun q => by
          obtain ⟨y, hy, he⟩ := (place_there HS.out).1 q
          rw [hpl, HX.out.1] at hy
          injection hy with hy
          exact e (by rw [HX.out.2, hy]; exact he)
         simp at this
         rw [this]; simp [e]
      obtain ⟨q, hq⟩ : ∃ q, q = (z == ref) := ⟨_, rfl⟩
      rw [← hq] at hpb
      have hq' := hq.symm
      have HPL := Lib.hid (And.intro hpl hpb)
      clear hpl hpb hq
      go_upto_region 4 with fail
      go_quiet (fail)
      go_wp2_with fail
      have hfin : Ending.returned (.tuple #[.int .i64 j, .bool q]) = Ending.returned (.tuple #[.int .i64 (placeN xs ref), .bool (placeB xs ref)]) := by rw [HPL.out.1, HPL.out.2]
      exact bodyPost_ret (v := .tuple #[.int .i64 j, .bool q]) (by simp [results, Tryz.results91, go_sem]) rfl ⟨hfin, below_dn (Below.refl _ wr) _⟩
  · obtain rfl : j = n := by omega
    have g1 : ¬ (j : Int) < j := by omega
    have hno : xs[j]? = none := List.getElem?_eq_none (by rw [← HRD.out.2]; exact Nat.le_refl _)
    have hpl : placeN xs ref = j := placeN_is HPRE.out (fun y hy => by rw [hno] at hy; cases hy)
    have hpb : placeB xs ref = false := by
     have : ¬ placeB xs ref = true := fun q => by
      obtain ⟨y, hy, he⟩ := (place_there HS.out).1 q
      rw [hpl, hno] at hy
      cases hy
     simpa using this
    have hfin : Ending.returned (.tuple #[.int .i64 j, .bool false]) = Ending.returned (.tuple #[.int .i64 (placeN xs ref), .bool (placeB xs ref)]) := by rw [hpl, hpb]
    have HFIN := Lib.hid hfin
    clear hpl hpb hno hfin
    go_upto_region 4 with fail
    go_quiet (fail)
    go_wp2_with fail
    exact bodyPost_ret (v := .tuple #[.int .i64 j, .bool false]) (by simp [results, Tryz.results91, go_sem]) rfl ⟨HFIN.out, below_dn (Below.refl _ wr) _⟩
theorem ry_won (on : Bool) (tr st en ay na su : Int) (x : Bal) (w : World) : Calls Tryz.prog 95 #[.agg #[.bool on, .int .i64 tr, .int .i64 st, .int .i64 en, .int .i64 ay, .int .i64 na, .int .i64 su], .agg #[.int .i64 x.k, .bool x.aye, .int .i64 x.l, .int .i64 x.a, .int .i64 x.n, .int .i64 x.s]] w fun e w' => e = .returned (.bool (wonB st x)) ∧ Below w.heap.size w w' := by
 obtain ⟨xk, xy, xl, xa, xn, xs⟩ := x
 unfold wonB
 dsimp only
 have hb : Below w.heap.size w ((w.alloc (.cells #[.bool on, .int .i64 tr, .int .i64 st, .int .i64 en, .int .i64 ay, .int .i64 na, .int .i64 su] 43)).alloc (.cells #[.int .i64 xk, .bool xy, .int .i64 xl, .int .i64 xa, .int .i64 xn, .int .i64 xs] 28)) := ((Below.refl _ w).alloc (Nat.le_refl _) _).alloc (by simp) _
 have HB := Lib.hid hb
 clear hb
 by_cases h1 : xk = 1
 · subst h1
   rw [if_pos rfl]
   cases xy
   · rw [if_neg (by decide)]
     by_cases h2 : st = 2
     · subst h2
       go_enter Tryz.func95, Tryz.ntmps95
       go_wp2_with fail
       exact bodyPost_ret (v := .bool false) (by simp [results, Tryz.results95, go_sem]) rfl ⟨rfl, HB.out⟩
     · have g2 : (st == 2) = false := by simp [h2]
       obtain ⟨q, hq⟩ : ∃ q, q = (st == 3) := ⟨_, rfl⟩
       rw [← hq]
       have g3 := hq.symm
       clear hq h2
       cases q
       · go_enter Tryz.func95, Tryz.ntmps95
         go_wp2_with fail
         exact bodyPost_ret (v := .bool false) (by simp [results, Tryz.results95, go_sem]) rfl ⟨rfl, HB.out⟩
       · go_enter Tryz.func95, Tryz.ntmps95
         go_wp2_with fail
         exact bodyPost_ret (v := .bool true) (by simp [results, Tryz.results95, go_sem]) rfl ⟨rfl, HB.out⟩
   · rw [if_pos rfl]
     by_cases h2 : st = 2
     · subst h2
       go_enter Tryz.func95, Tryz.ntmps95
       go_wp2_with fail
       exact bodyPost_ret (v := .bool true) (by simp [results, Tryz.results95, go_sem]) rfl ⟨rfl, HB.out⟩
     · have g2 : (st == 2) = false := by simp [h2]
       rw [g2]
       clear h2
       obtain ⟨q, hq⟩ : ∃ q, q = (st == 3) := ⟨_, rfl⟩
       have g3 := hq.symm
       clear hq
       cases q
       · go_enter Tryz.func95, Tryz.ntmps95
         go_wp2_with fail
         exact bodyPost_ret (v := .bool false) (by simp [results, Tryz.results95, go_sem]) rfl ⟨rfl, HB.out⟩
       · go_enter Tryz.func95, Tryz.ntmps95
         go_wp2_with fail
         exact bodyPost_ret (v := .bool false) (by simp [results, Tryz.results95, go_sem]) rfl ⟨rfl, HB.out⟩
 · rw [if_neg h1]
   have g1 : (xk == 1) = false := by simp [h1]
   clear h1
   go_enter Tryz.func95, Tryz.ntmps95
   go_wp2_with fail
   exact bodyPost_ret (v := .bool false) (by simp [results, Tryz.results95, go_sem]) rfl ⟨rfl, HB.out⟩
theorem ry_join (h : RyAt vy pb rb P R F w) {k : Nat} (hk : k < 40) (u n : Int) : Calls Tryz.prog 96 #[.pointer (some ⟨rb, k * 9, none⟩), .int .i64 u, .int .i64 n] w fun e w' => e = .returned (.tuple #[]) ∧ (ryM vy pb rb P (updN R k { R k with u := max (R k).u u, p := max (R k).p n })).to F w w' := by
 obtain ⟨v, hrd, -, -, -, -, -, -, -, c7, c8⟩ := h.rec hk
 have h1 := ry_setR (ry_refl h) (j := 7) hk (by omega) (u := .int .i64 (max (R k).u u)) (r' := { R k with u := max (R k).u u }) (fun v => rfl) rfl
 have h2 := ry_setR h1 (j := 8) hk (by omega) (u := .int .i64 (max (R k).p n)) (r' := { R k with u := max (R k).u u, p := max (R k).p n }) (fun v => by rw [updN_same]; rfl) (by rw [updN_same])
 rw [updN_updN] at h2
 obtain ⟨ou, hou⟩ : ∃ z, z = (R k).u := ⟨_, rfl⟩
 obtain ⟨op, hop⟩ : ∃ z, z = (R k).p := ⟨_, rfl⟩
 rw [← hou, ← hop] at h2 ⊢
 rw [← hou] at c7
 rw [← hop] at c8
 obtain ⟨m1, hm1⟩ : ∃ m, m = max ou u := ⟨_, rfl⟩
 obtain ⟨m2, hm2⟩ : ∃ m, m = max op n := ⟨_, rfl⟩
 have A1 : max ou u = m1 := hm1.symm
 have A2 : (if ou < u then u else ou) = m1 := by rw [hm1]; split <;> omega
 have B1 : max op n = m2 := hm2.symm
 have B2 : (if op < n then n else op) = m2 := by rw [hm2]; split <;> omega
 rw [A1, B1] at h2 ⊢
 have f7 := (h.frozen (k * 9 + 7)).2
 have f8 := (h.frozen (k * 9 + 8)).2
 have H2 := Lib.hid h2
 clear h1 h2 hm1 hm2 hou hop hrd h
 go_enter Tryz.func96, Tryz.ntmps96
 go_region
 go_wp2_with fail
 exact bodyPost_end (results_none rfl _ _ _) rfl ⟨rfl, by first | exact H2.out | exact ry_below H2.out (Below.refl _ _).drew⟩
end
end
section
end
end Go.Proofs.YtbpemdihoabbcaaGreat
