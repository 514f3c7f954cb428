/-
  Joined texts.
-/
import Derived.Deep.RegionLaw
import Derived.Deep.DeepCutAuto
import Derived.Deep.CutBlock
import Derived.Deep.RegionHeld3
import Derived.WideKeyEntry
import Derived.Test.YtcfcfijmfgnpfaaGreatDoorMgk

section
namespace Go.Proofs.YtcfcfijmfgnpfaaGreatDoor
open Go.RowKit
set_option linter.unusedVariables false
set_option linter.unusedSimpArgs false

def RdCall (q : Nat) : Prop := ∀ (v : Value) (l : List Nat) (w : World), RdB w v l → ByL l → Calls Tryz.prog 69 #[v, .int .i64 (q : Int)] w fun e w' => ∃ u, e = .returned u ∧ RdZ (fun b => b < w.heap.size) w' (q + 1) u (readC q l) ∧ Below w.heap.size w w'
theorem row_K {w : World} {cb rb N1 : Nat} {k t n : Int} {d : Nat} {ks : List Cl} {R : List Nat} {s : Value} {ys : List C4} {W : World} (h : KSt w cb rb N1 k t n d ks R s ys W) (hby : ByL R) (hw : w.heap.size < rb) (hcr : cb ≠ rb) (hrN : rb < N1) :
    Calls Tryz.prog 91 #[.pointer (some ⟨rb, 0, none⟩)] W fun e w' => ∃ u, e = .returned u ∧ RdB w' u (rdR R).1 ∧ KSt w cb rb N1 k t n d ks (rdR R).2 s ys w' ∧ W.grownBy w' (some rb) := by
  obtain ⟨v', r1, r2⟩ := h.rdr
  refine (code_row rb v' R w W h.old r2 r1 hby).mono ?_
  rintro e w' ⟨u, rfl, h1, h2, v2, h3, h4⟩
  exact ⟨u, rfl, h1.reads, h.row hw hcr hrN h2 h3 h4, h2⟩
theorem read_K {q' : Nat} (ih : RdCall q') {w : World} {cb rb N1 : Nat} {k t n : Int} {d : Nat} {ks : List Cl} {R p : List Nat} {s u : Value} {ys : List C4} {W : World} (h : KSt w cb rb N1 k t n d ks R s ys W) (hu : RdB W u p) (hp : ByL p) :
    Calls Tryz.prog 69 #[u, .int .i64 (q' : Int)] W fun e w' => ∃ y : C4, e = .returned (.agg (c4 y).toArray) ∧ RdZ (fun b => b < W.heap.size) w' (q' + 1) (.agg (c4 y).toArray) (readC q' p) ∧ KSt w cb rb N1 k t n d ks R s ys w' ∧ Below W.heap.size W w' := by
  refine (ih u p W hu hp).mono ?_
  rintro e w' ⟨v, rfl, h1, h2⟩
  obtain ⟨ao, cap, e⟩ := h1.cells
  refine ⟨((readC q' p).k, (readC q' p).t, (readC q' p).n, ao, (readC q' p).kids.length, cap), by rw [e]; rfl, by rw [e] at h1; exact h1, h.keep h2, h2⟩
theorem KSt.c3 {w : World} {cb rb N1 : Nat} {k t n : Int} {d : Nat} {ks : List Cl} {R : List Nat} {s : Value} {ys : List C4} {W : World} (h : KSt w cb rb N1 k t n d ks R s ys W) : W.cell? ⟨cb, 3, none⟩ = some s := by rw [World.cell?, h.cat]; rfl
theorem bel_alloc (W : World) (o : Obj) : Below W.heap.size W (W.alloc o) := (Below.refl _ W).alloc (Nat.le_refl _) _
theorem bel_drew (W : World) : Below W.heap.size W W.drew := (Below.refl _ W).drew
theorem KSt.app {w : World} {cb rb N1 : Nat} {k t n : Int} {d : Nat} {ks : List Cl} {R : List Nat} {s : Value} {ys : List C4} {W : World} {C : Cl} {y : C4} {N2 ub : Nat} (h : KSt w cb rb N1 k t n d ks R s ys W) (hN : cb < N1 ∧ w.heap.size < cb ∧ rb < N1 ∧ w.heap.size < rb ∧ cb ≠ rb)
    (hU : W.heap[ub]? = some (.cells zero4 45 (0, 0))) (hkid : RdZ (fun b => b < N2) W d (.agg (c4 y).toArray) C) {V : World} {R' : List Nat} (hV : KSt w cb rb N1 k t n d ks R' s ys V) (hV2 : V.heap.size = N2) (hlen : ys.length ≤ 1000) : AppQ w cb rb N1 k t n d ks R s ys W C y ub :=
  kst_app h hN.1 hN.2.1 hN.2.2.1 hN.2.2.2.1 hN.2.2.2.2 hU hkid (fun b hb => by rw [← hV2]; exact (hV.own.block hb).2) (by rw [← hV2]; exact hV.sz) hlen
theorem step_appC {ops : Array Oper} {o : Oper} {a : Act} {w w' : World} {K : Act → World → Prop} {Q : Exit → Act → World → Prop} {E : Prop} {u v v' : Value} (hg : o.guard = none) (d x : Operand)
    (hop : o.op = Op.call { callee := Callee.builtin Builtin.append, args := #[d, x], argTypes := #[43, 43] }) (hty : o.type = 43) (hd : a.eval d = v) (hx : a.eval x = u) (hrun : (appC #[v, u]).run Tryz.prog w = .ok v' w') (hK : K (a.put o.dst v') w') :
    if Region.wanted o (yielded ops a.tmps) = true then Oper.wp Tryz.prog o a w K Q else E := by
  rw [if_pos (by simp [Region.wanted, hg])]
  unfold Oper.wp
  unfold appC at hrun
  simp [execOp, hop, hty, resolve, invoke, builtin, hd, hx, hrun, Result.andThen]
  exact hK
attribute [local go_sem ↓] store_c
set_option maxHeartbeats 8000000 in
set_option maxRecDepth 100000 in
theorem code_readCallH (q : Nat) (hq : q ≤ 3) (ih : ∀ q', q = q' + 1 → RdCall q') : RdCall q := by
  intro v l w hr hby
  obtain ⟨ao, cap, hv⟩ := hr.lenOf
  obtain ⟨m, hm⟩ : ∃ m, m = l.length := ⟨_, rfl⟩
  rw [← hm] at hv
  subst hv
  obtain ⟨W1, hW1⟩ : ∃ W1, W1 = ((w.alloc (.cells #[.int .i64 0, .int .i64 0, .int .i64 0, .slice none 0 0] 45)).alloc (.cells #[.int .i64 0, .int .i64 0, .int .i64 0, .slice none 0 0] 45)).alloc (.cells #[.slice ao m cap] 154) := ⟨_, rfl⟩
  obtain ⟨rs, hrs⟩ : ∃ b, b = w.heap.size := ⟨_, rfl⟩
  obtain ⟨cb, hcb⟩ : ∃ b, b = w.heap.size + 1 := ⟨_, rfl⟩
  obtain ⟨rb, hrb⟩ : ∃ b, b = w.heap.size + 1 + 1 := ⟨_, rfl⟩
  have hs1 : W1.heap.size = w.heap.size + 3 := by rw [hW1]; simp
  have hB1 : Below w.heap.size w W1 := by rw [hW1]; exact (((Below.refl _ w).alloc (Nat.le_refl _) _).alloc (by simp) _).alloc (by simp; omega) _
  have hrx1 : RBx W1 rb (.slice ao m cap) := by
    have h := World.alloc_heap_new ((w.alloc (.cells #[.int .i64 0, .int .i64 0, .int .i64 0, .slice none 0 0] 45)).alloc (.cells #[.int .i64 0, .int .i64 0, .int .i64 0, .slice none 0 0] 45)) (.cells #[.slice ao m cap] 154)
    rw [World.size_alloc, World.size_alloc, ← hW1, ← hrb] at h
    exact h
  have hca1 : W1.heap[cb]? = some (.cells #[.int .i64 0, .int .i64 0, .int .i64 0, .slice none 0 0] 45 (0, 0)) := by
    have h := World.alloc_heap_new (w.alloc (.cells #[.int .i64 0, .int .i64 0, .int .i64 0, .slice none 0 0] 45)) (.cells #[.int .i64 0, .int .i64 0, .int .i64 0, .slice none 0 0] 45)
    rw [World.size_alloc, ← hcb] at h
    rw [hW1]
    exact (Below.heap_alloc _ _ _ (by simp; omega)).trans h
  have hrs1 : W1.heap[rs]? = some (.cells #[.int .i64 0, .int .i64 0, .int .i64 0, .slice none 0 0] 45 (0, 0)) := by
    have h := World.alloc_heap_new w (.cells #[.int .i64 0, .int .i64 0, .int .i64 0, .slice none 0 0] 45)
    rw [← hrs] at h
    rw [hW1]
    exact (Below.heap_alloc _ _ _ (by simp; omega)).trans ((Below.heap_alloc _ _ _ (by simp; omega)).trans h)
  have HR := Lib.hid hr
  have HBY := Lib.hid hby
  have HW := Lib.hid (And.intro hW1 (And.intro hrs (And.intro hcb hrb)))
  have HB1 := Lib.hid hB1
  have HX1 := Lib.hid (And.intro hrx1 (And.intro hca1 hrs1))
  have HN := Lib.hid (show cb ≠ rb ∧ rs ≠ cb ∧ rs ≠ rb ∧ w.heap.size ≤ rs ∧ w.heap.size < cb ∧ w.heap.size < rb ∧ rs < W1.heap.size ∧ cb < W1.heap.size ∧ rb < W1.heap.size by omega)
  have HIH := Lib.hid ih
  clear hr hm hby hW1 hrs hcb hrb hs1 hB1 hrx1 hca1 hrs1 ih
  go_enter Tryz.func69, Tryz.ntmps69
  go_upto_region 3 with fail
  rw [← HW.out.1, ← HW.out.2.2.2, ← HW.out.2.2.1, ← HW.out.2.1]
  go_upto_region 5 with (first
    | (go_at_call 84; with_reducible refine (code_callFields cb 0 _).mono ?_; rintro e w2 ⟨bx, bb, rfl, hb, hcx, hrv, hx1, hx2⟩; have F2 := Lib.hid (And.intro hb (And.intro hcx (And.intro hrv (And.intro hx1 hx2)))); clear hb hcx hrv hx1 hx2)
    | (go_at_call 89; with_reducible refine (rd_fill HR.out HBY.out HB1.out HX1.out HN.out F2.out).mono ?_; rintro e w3 ⟨⟨u3, rfl⟩, hf⟩; have F3 := Lib.hid hf; clear hf)
    | (go_at_call 90; with_reducible refine (rd_num (d := q) HR.out HBY.out HB1.out HX1.out HN.out F2.out F3.out HW.out.2.1).mono ?_; rintro e w4 ⟨rfl, hf⟩; have F4 := Lib.hid hf; clear hf F3 F2)
    | fail)
  obtain ⟨N1, hN1, hK⟩ := F4.out
  obtain ⟨nk, hnk⟩ : ∃ nk, nk = (rdN (rdN (rdN (rdN l).2).2).2).1 := ⟨_, rfl⟩
  obtain ⟨k0, hk0⟩ : ∃ k, k = (((rdN l).1 : Nat) : Int) := ⟨_, rfl⟩
  obtain ⟨t0, ht0⟩ : ∃ k, k = (((rdN (rdN l).2).1 : Nat) : Int) := ⟨_, rfl⟩
  obtain ⟨n0, hn0⟩ : ∃ k, k = (((rdN (rdN (rdN l).2).2).1 : Nat) : Int) := ⟨_, rfl⟩
  rw [← hk0, ← ht0, ← hn0] at hK
  rw [← hnk]
  have HRS := Lib.hid (show w4.heap[rs]? = some (.cells zero4 45 (0, 0)) by rw [HW.out.2.1]; exact hK.rs)
  have HK := Lib.hid hK
  have HN1 := Lib.hid hN1
  cases q with
  | zero =>
    have hcl : readC 0 l = .mk k0 t0 n0 [] := by rw [readC, hk0, ht0, hn0]
    have HCL := Lib.hid hcl
    clear hK hN1 F4 hnk hk0 ht0 hn0 hcl
    go_wp2_with (first
      | (refine wpl_loadC _ rfl rfl rfl (rangeAt_whole HK.out.cat) rfl ?_)
      | (refine wpl_storeD (vs := #[.int .i64 k0, .int .i64 t0, .int .i64 n0, .slice none 0 0]) _ _ rfl rfl rfl rfl HRS.out rfl rfl (ones4D k0 t0 n0 _ 0 0) ?_)
      | fail)
    obtain ⟨e1, e2, e3⟩ := rd_end HK.out HW.out.2.1 HN1.out.2.2 HCL.out
    obtain ⟨WF, hWF⟩ : ∃ WF, WF = w4.setRow rs #[.int .i64 k0, .int .i64 t0, .int .i64 n0, .slice none 0 0] := ⟨_, rfl⟩
    rw [← hWF] at e1 e2 e3 ⊢
    have z0 : WF.cell? ⟨rs, 0, none⟩ = some (.int .i64 k0) := by rw [World.cell?, e3]; rfl
    have z1 : WF.cell? ⟨rs, 1, none⟩ = some (.int .i64 t0) := by rw [World.cell?, e3]; rfl
    have z2 : WF.cell? ⟨rs, 2, none⟩ = some (.int .i64 n0) := by rw [World.cell?, e3]; rfl
    have z3 : WF.cell? ⟨rs, 3, none⟩ = some (.slice none 0 0) := by rw [World.cell?, e3]; rfl
    have E := Lib.hid (And.intro e1 e2)
    clear e1 e2 e3 hWF
    exact bodyPost_ret (v := .agg #[.int .i64 k0, .int .i64 t0, .int .i64 n0, .slice none 0 0]) (by simp [results, Tryz.results69, Act.put, go_sem, z0, z1, z2, z3]) rfl ⟨_, rfl, E.out⟩
  | succ q' =>
    obtain ⟨M, hM⟩ : ∃ M, M = min nk 4 := ⟨_, rfl⟩
    have hcl : readC (q' + 1) l = .mk k0 t0 n0 (readKs (readC q') M (rd4 l)) := by rw [readC, hk0, ht0, hn0, hM, hnk]
    have E1 : min (nk : Int) 4 = (M : Int) := by omega
    have E2 : (if (nk : Int) ≤ 4 then (nk : Int) else 4) = (M : Int) := by split <;> omega
    have E3 : (if (4 : Int) < (nk : Int) then (4 : Int) else (nk : Int)) = (M : Int) := by split <;> omega
    have E4 : (if (nk : Int) < 4 then (nk : Int) else 4) = (M : Int) := by split <;> omega
    have hM4 : (M : Int) ≤ 4 := by omega
    obtain ⟨Q, hQ⟩ : ∃ Q : Int, Q = ((q' + 1 : Nat) : Int) := ⟨_, rfl⟩
    rw [← hQ]
    have gQ : (Q == 0) = false := by rw [beq_eq_false_iff_ne]; omega
    have gQ2 : decide (Q = 0) = false := decide_eq_false (by omega)
    have gQ3 : IntKind.i64.wrap (Q - 1) = (q' : Int) := by rw [IntWalk.i64_in _ (by omega)]; omega
    have HQ := Lib.hid gQ3
    have gQ4 := gQ3
    have HCL := Lib.hid hcl
    have IH := Lib.hid (HIH.out q' rfl)
    have HE := Lib.hid (And.intro E2 (And.intro E3 E4))
    clear hK hN1 F4 hnk hk0 ht0 hn0 hcl hM hQ gQ3 E2 E3 E4 HIH
    go_wp2_with fail
    go_loopw [18] (fun i wr => ∃ (j : Nat) (s : Value) (ys : List C4), j ≤ M ∧ i = .int .i64 j ∧ KSt w cb rb N1 k0 t0 n0 (q' + 1) (readKs (readC q') j (rd4 l)) (restKs j (rd4 l)) s ys wr) (fun i _ => M - (intOf i).toNat)
    case atStart => exact ⟨0, _, _, by omega, rfl, HK.out⟩
    case round =>
      obtain ⟨j, s, ys, hj, rfl, hK⟩ := hrel
      clear HK
      by_cases hlt : j < M
      · have hlt' : (j : Int) < (M : Int) := by omega
        obtain ⟨L0, hL0⟩ : ∃ L0, L0 = restKs j (rd4 l) := ⟨_, rfl⟩
        have hb0 : ByL L0 := by rw [hL0]; exact ByL.restKs (HBY.out.rdN.rdN.rdN.rdN) j
        have hsn := readKs_snoc (readC q') j (rd4 l)
        have hsr := restKs_snoc j (rd4 l)
        have hkl := readKs_len (readC q') j (rd4 l)
        rw [← hL0] at hsn hsr hK
        obtain ⟨ks, hks⟩ : ∃ ks, ks = readKs (readC q') j (rd4 l) := ⟨_, rfl⟩
        rw [← hks] at hsn hkl hK
        have hyl : ys.length = j := by rw [hK.len, hkl]
        obtain ⟨ao2, cap2, hs⟩ := hK.own.lenOf
        rw [hyl] at hs
        subst hs
        have gj0 : (0 : Int) ≤ (j : Int) := by omega
        have gj1 : (j : Int) < ((j + 1 : Nat) : Int) := by omega
        have gj2 : (j : Int) < (j : Int) + 1 := by omega
        have BL := Lib.hid hb0
        have HNN := Lib.hid (show cb < N1 ∧ w.heap.size < cb ∧ rb < N1 ∧ w.heap.size < rb ∧ cb ≠ rb from ⟨HN1.out.2.1, HN.out.2.2.2.2.1, HN1.out.1, HN.out.2.2.2.2.2.1, HN.out.1⟩)
        have c3 := hK.c3
        have c3a := (hK.keep (bel_alloc wr (.cells zero4 45))).c3
        have K0 := Lib.hid (hK.keep (bel_drew wr))
        have K0a := Lib.hid ((hK.keep (bel_alloc wr (.cells zero4 45))).keep (bel_drew _))
        have U0a := Lib.hid (show ((wr.alloc (.cells zero4 45)).drew).heap[wr.heap.size]? = some (.cells zero4 45 (0, 0)) from World.alloc_heap_new wr (.cells zero4 45))
        have S0a := Lib.hid (show wr.heap.size < ((wr.alloc (.cells zero4 45)).drew).heap.size from by show wr.heap.size < (wr.alloc _).heap.size; simp)
        have HYL := Lib.hid hyl
        have HSN := Lib.hid (And.intro hsn hsr)
        have HSR := Lib.hid (show some wr.heap.size ≠ some rb from by have := hK.sz; have := HN1.out.1; simp; omega)
        clear hL0 hb0 hsn hsr hkl hks hyl hK
        go_upto_block 1 with fail
        go_cut [28] (fun p wx => ∃ (s' : Value) (ys' : List C4), KSt w cb rb N1 k0 t0 n0 (q' + 1) (readKs (readC q') (j + 1) (rd4 l)) (restKs (j + 1) (rd4 l)) s' ys' wx)
        case first =>
          go_wp2_with fail
          go_region_law (first
            | (refine step_appC rfl _ _ rfl rfl (by simp [Act.eval, Act.put]) (by simp [Act.eval, Act.put]) r1 ?_)
            | (go_simp; first | (go_at_call 91; with_reducible refine (row_K K0a.out BL.out HNN.out.2.2.2.1 HNN.out.2.2.2.2 HNN.out.2.2.1).mono ?_; rintro e w2 ⟨u2, rfl, hb2, hk2, hg2⟩; have B2 := Lib.hid hb2; have K2 := Lib.hid hk2; have U2 := Lib.hid ((hg2.block wr.heap.size S0a.out HSR.out).trans U0a.out); have c32 := hk2.c3; clear hb2 hk2 hg2) | (go_at_call 91; with_reducible refine (row_K K0.out BL.out HNN.out.2.2.2.1 HNN.out.2.2.2.2 HNN.out.2.2.1).mono ?_; rintro e w2 ⟨u2, rfl, hb2, hk2, hg2⟩; have B2 := Lib.hid hb2; have K2 := Lib.hid hk2; have c32 := hk2.c3; have hk2a := hk2.keep (bel_alloc w2 (.cells zero4 45)); have K2a := Lib.hid hk2a; have c32a := hk2a.c3; have B2a := Lib.hid (hb2.below (bel_alloc w2 (.cells zero4 45))); have U2a := Lib.hid (World.alloc_heap_new w2 (.cells zero4 45)); clear hb2 hk2 hg2 hk2a) | (go_at_call 69; with_reducible refine (read_K IH.out K2.out B2.out (BL.out.row)).mono ?_; rintro e w5 ⟨y5, rfl, hz5, hk5, hb5⟩; have c35 := hk5.c3; have hap := hk5.app HNN.out ((hb5.block _ (Array.getElem?_eq_some_iff.1 U2.out).1).trans U2.out) hz5 K2.out rfl (by have := HYL.out; omega); clear hz5 hk5 hb5; unfold AppQ at hap; obtain ⟨g, cap8, w8, r1, r2, r3, ⟨x1, y1⟩, ⟨x2, y2⟩, F1, F2⟩ := hap; rw [HYL.out] at r1 r2 r3 x2 y2 F1 F2; have FA := Lib.hid F1; have FB := Lib.hid F2; clear F1 F2) | (go_at_call 69; with_reducible refine (read_K IH.out K2a.out B2a.out (BL.out.row)).mono ?_; rintro e w5 ⟨y5, rfl, hz5, hk5, hb5⟩; have c35 := hk5.c3; have hap := hk5.app HNN.out ((hb5.block _ (Array.getElem?_eq_some_iff.1 U2a.out).1).trans U2a.out) hz5 K2a.out rfl (by have := HYL.out; omega); clear hz5 hk5 hb5; unfold AppQ at hap; obtain ⟨g, cap8, w8, r1, r2, r3, ⟨x1, y1⟩, ⟨x2, y2⟩, F1, F2⟩ := hap; rw [HYL.out] at r1 r2 r3 x2 y2 F1 F2; have FA := Lib.hid F1; have FB := Lib.hid F2; clear F1 F2) | (go_at_call 69; with_reducible refine (read_K IH.out K2.out B2.out (BL.out.row)).mono ?_; rintro e w5 ⟨y5, rfl, hz5, hk5, hb5⟩; have c35 := hk5.c3; have hk5a := hk5.keep (bel_alloc w5 (.cells zero4 45)); have c35a := hk5a.c3; have hap := hk5a.app HNN.out (World.alloc_heap_new w5 (.cells zero4 45)) (RdZ.keep (bel_alloc w5 _).size (fun _ _ z => z) (fun x hx _ => (bel_alloc w5 _).block x hx) hz5) K2.out rfl (by have := HYL.out; omega); clear hz5 hk5 hb5 hk5a; unfold AppQ at hap; obtain ⟨g, cap8, w8, r1, r2, r3, ⟨x1, y1⟩, ⟨x2, y2⟩, F1, F2⟩ := hap; rw [HYL.out] at r1 r2 r3 x2 y2 F1 F2; have FA := Lib.hid F1; have FB := Lib.hid F2; clear F1 F2) | fail)
            | fail)
          all_goals go_wp2_with fail
          all_goals go_meet
          all_goals exact ⟨_, _, by rw [HSN.out.1, HSN.out.2]; first | with_reducible exact FA.out | with_reducible exact FB.out | fail⟩
        case rest =>
          obtain ⟨s3, ys3, hk3⟩ := hcut
          have HK3 := Lib.hid hk3
          clear hk3 K0 K0a U0a c3 c3a
          go_wp2_with fail
          go_roundw
          case rel => exact ⟨j + 1, _, _, hlt, by go_num, HK3.out⟩
          case measure => simp [intOf]; omega
      · obtain rfl : j = M := by omega
        have hge : ¬ (j : Int) < (j : Int) := by omega
        have HKF := Lib.hid hK
        have HRF := Lib.hid (show wr.heap[rs]? = some (.cells zero4 45 (0, 0)) by rw [HW.out.2.1]; exact hK.rs)
        obtain ⟨ao2, cap2, hs⟩ := hK.own.lenOf
        obtain ⟨m2, hm2⟩ : ∃ m2, m2 = ys.length := ⟨_, rfl⟩
        rw [← hm2] at hs
        subst hs
        clear hK hm2 hlt hj
        go_wp2_with (first
          | (refine wpl_loadC _ rfl rfl rfl (rangeAt_whole HKF.out.cat) rfl ?_)
          | (refine wpl_storeD (vs := #[.int .i64 k0, .int .i64 t0, .int .i64 n0, .slice ao2 m2 cap2]) _ _ rfl rfl rfl rfl HRF.out rfl rfl (ones4D k0 t0 n0 _ _ _) ?_)
          | fail)
        obtain ⟨e1, e2, e3⟩ := rd_end HKF.out HW.out.2.1 HN1.out.2.2 HCL.out
        obtain ⟨WF, hWF⟩ : ∃ WF, WF = wr.setRow rs #[.int .i64 k0, .int .i64 t0, .int .i64 n0, .slice ao2 m2 cap2] := ⟨_, rfl⟩
        rw [← hWF] at e1 e2 e3 ⊢
        have z0 : WF.cell? ⟨rs, 0, none⟩ = some (.int .i64 k0) := by rw [World.cell?, e3]; rfl
        have z1 : WF.cell? ⟨rs, 1, none⟩ = some (.int .i64 t0) := by rw [World.cell?, e3]; rfl
        have z2 : WF.cell? ⟨rs, 2, none⟩ = some (.int .i64 n0) := by rw [World.cell?, e3]; rfl
        have z3 : WF.cell? ⟨rs, 3, none⟩ = some (.slice ao2 m2 cap2) := by rw [World.cell?, e3]; rfl
        have E := Lib.hid (And.intro e1 e2)
        clear e1 e2 e3 hWF
        exact bodyPost_ret (v := .agg #[.int .i64 k0, .int .i64 t0, .int .i64 n0, .slice ao2 m2 cap2]) (by simp [results, Tryz.results69, Act.put, go_sem, z0, z1, z2, z3]) rfl ⟨_, rfl, E.out⟩
theorem code_readCall : ∀ q, q ≤ 3 → RdCall q := by
  intro q
  induction q with
  | zero => intro h; exact code_readCallH 0 h (fun q' e => by omega)
  | succ q ih => intro h; exact code_readCallH (q + 1) h (fun q' e => by obtain rfl : q' = q := by omega
                                                                         exact ih (by omega))
end Go.Proofs.YtcfcfijmfgnpfaaGreatDoor
end

section
namespace Go.Proofs.YtcfcfijmfgnpfaaGreatDoor
open Go.RowKit
set_option linter.unusedVariables false
set_option linter.unusedSimpArgs false

theorem run_loadCG {w : World} {b o : Nat} {vs : List Value} (h : w.rangeAt b o vs) (hl : vs.length = 4) : (loadC (.pointer (some ⟨b, o, none⟩))).run Tryz.prog w = .ok (.agg vs.toArray) w :=
  run_loadAt_mid w b o 45 vs _ h Tryz.underlying45 rfl (by rw [hl]; kernel_rfl)
theorem bel_drewS (W : World) : Below W.heap.size W W.drew := (Below.refl _ W).drew
attribute [local go_sem ↓] load_c
set_option maxHeartbeats 8000000 in
set_option maxRecDepth 100000 in
theorem ref_Same1 (d : Nat) : ∀ (d2 : Nat) (c : Cl) (v u : Value) (w : World), RdC w d v c → RdC w d2 u c → LenC c → Calls Tryz.prog 28 #[v, u] w fun x w' => x = .returned (.bool true) ∧ Below w.heap.size w w' := by
  induction d with
  | zero => intro d2 c v u w h; exact h.elim
  | succ d ih =>
  intro d2 c v u w hrd hrd2 hlen
  obtain ⟨d', ao, cap, hd, rfl, hk1⟩ := hrd.open
  obtain rfl : d' = d := by omega
  obtain ⟨e2, ao2, cap2, -, rfl, hk2⟩ := hrd2.open
  obtain ⟨hl1, hl2⟩ := (lenC_iff c).1 hlen
  obtain ⟨k, hk⟩ : ∃ k, k = c.k := ⟨_, rfl⟩
  obtain ⟨t, ht⟩ : ∃ t, t = c.t := ⟨_, rfl⟩
  obtain ⟨n, hn⟩ : ∃ n, n = c.n := ⟨_, rfl⟩
  obtain ⟨l, hl⟩ : ∃ l, l = c.kids := ⟨_, rfl⟩
  rw [← hk, ← ht, ← hn, ← hl]
  rw [← hl] at hk1 hk2 hl1 hl2
  obtain ⟨m, hm⟩ : ∃ m, m = l.length := ⟨_, rfl⟩
  rw [← hm] at hl1 ⊢
  have hmI : (m : Int) ≤ 9223372036854775807 := Int.le_trans (Int.ofNat_le.2 hl1) (by decide +kernel)
  obtain ⟨W, hW⟩ : ∃ W, W = (w.alloc (.cells #[.int .i64 k, .int .i64 t, .int .i64 n, .slice ao m cap] 45)).alloc (.cells #[.int .i64 k, .int .i64 t, .int .i64 n, .slice ao2 m cap2] 45) := ⟨_, rfl⟩
  obtain ⟨cb, hcb⟩ : ∃ b, b = w.heap.size := ⟨_, rfl⟩
  obtain ⟨db, hdb⟩ : ∃ b, b = w.heap.size + 1 := ⟨_, rfl⟩
  have hB : Below w.heap.size w W := by rw [hW]; exact ((Below.refl _ w).alloc (Nat.le_refl _) _).alloc (by simp) _
  have g1 : W.heap[cb]? = some (.cells #[.int .i64 k, .int .i64 t, .int .i64 n, .slice ao m cap] 45 (0, 0)) := by
    rw [hW, hcb]; exact (Below.heap_alloc _ _ _ (by simp)).trans (World.alloc_heap_new _ _)
  have g2 : W.heap[db]? = some (.cells #[.int .i64 k, .int .i64 t, .int .i64 n, .slice ao2 m cap2] 45 (0, 0)) := by
    have h := World.alloc_heap_new (w.alloc (.cells #[.int .i64 k, .int .i64 t, .int .i64 n, .slice ao m cap] 45)) (.cells #[.int .i64 k, .int .i64 t, .int .i64 n, .slice ao2 m cap2] 45)
    rw [World.size_alloc, ← hdb] at h
    rw [hW]; exact h
  have a0 : W.cell? ⟨cb, 0, none⟩ = some (.int .i64 k) := by rw [World.cell?, g1]; rfl
  have a1 : W.cell? ⟨cb, 1, none⟩ = some (.int .i64 t) := by rw [World.cell?, g1]; rfl
  have a2 : W.cell? ⟨cb, 2, none⟩ = some (.int .i64 n) := by rw [World.cell?, g1]; rfl
  have a3 : W.cell? ⟨cb, 3, none⟩ = some (.slice ao m cap) := by rw [World.cell?, g1]; rfl
  have b0 : W.cell? ⟨db, 0, none⟩ = some (.int .i64 k) := by rw [World.cell?, g2]; rfl
  have b1 : W.cell? ⟨db, 1, none⟩ = some (.int .i64 t) := by rw [World.cell?, g2]; rfl
  have b2 : W.cell? ⟨db, 2, none⟩ = some (.int .i64 n) := by rw [World.cell?, g2]; rfl
  have b3 : W.cell? ⟨db, 3, none⟩ = some (.slice ao2 m cap2) := by rw [World.cell?, g2]; rfl
  have HB := Lib.hid hB
  have H1 := Lib.hid (RdCs.below hk1 hB)
  have H2 := Lib.hid (RdCs.below hk2 hB)
  have HCB := Lib.hid (And.intro (Array.getElem?_eq_some_iff.1 g1).1 (Array.getElem?_eq_some_iff.1 g2).1)
  have HM := Lib.hid (And.intro hm hl2)
  have IH := Lib.hid ih
  have HA := Lib.hid (And.intro a3 b3)
  clear g1 g2 hB hk1 hk2 hm hl2 ih hrd hrd2 hlen hk ht hn hl hd hl1
  go_enter Tryz.func28, Tryz.ntmps28
  go_upto_region 1 with fail
  rw [← hW, ← hdb, ← hcb]
  clear hW hcb hdb
  go_wp2_with fail
  go_loopw [5] (fun i wr => ∃ j : Nat, j ≤ m ∧ i = .int .i64 j ∧ Below W.heap.size W wr) (fun i _ => m - (intOf i).toNat)
  case atStart => exact ⟨0, by omega, rfl, Below.refl _ _⟩
  case round =>
    obtain ⟨j, hj, rfl, hb⟩ := hrel
    have HBW := Lib.hid hb
    clear a0 a1 a2 a3 b0 b1 b2 b3
    have a3 : wr.cell? ⟨cb, 3, none⟩ = some (.slice ao m cap) := (World.cell?_of_block (a := ⟨cb, 3, none⟩) (hb.block cb HCB.out.1)).trans HA.out.1
    have b3 : wr.cell? ⟨db, 3, none⟩ = some (.slice ao2 m cap2) := (World.cell?_of_block (a := ⟨db, 3, none⟩) (hb.block db HCB.out.2)).trans HA.out.2
    by_cases hlt : j < m
    · have hlt' : (j : Int) < m := by omega
      have hj0 : (0 : Int) ≤ (j : Int) := by omega
      have hjl : j < l.length := by rw [← HM.out.1]; exact hlt
      obtain ⟨kb, ko, vs, rfl, hkb, hrg, hrd⟩ := H1.out j hjl
      obtain ⟨kb2, ko2, vs2, rfl, hkb2, hrg2, hrd2⟩ := H2.out j hjl
      have hv4 : vs.length = 4 := by obtain ⟨x1, x2, x3⟩ := hrd.cells; rw [x3]; rfl
      have hv42 : vs2.length = 4 := by obtain ⟨x1, x2, x3⟩ := hrd2.cells; rw [x3]; rfl
      have hS : ∀ W', Below wr.heap.size wr W' → W'.cell? ⟨cb, 3, none⟩ = some (.slice (some ⟨kb, ko, none⟩) m cap) ∧ W'.cell? ⟨db, 3, none⟩ = some (.slice (some ⟨kb2, ko2, none⟩) m cap2) ∧
          (loadC (.pointer (some ⟨kb, ko + j * 4, none⟩))).run Tryz.prog W' = .ok (.agg vs.toArray) W' ∧ (loadC (.pointer (some ⟨kb2, ko2 + j * 4, none⟩))).run Tryz.prog W' = .ok (.agg vs2.toArray) W' := fun W' hb' => by
        have hsz := hb.size
        have hcl := HCB.out
        exact ⟨(World.cell?_of_block (a := ⟨cb, 3, none⟩) (hb'.block cb (by omega))).trans a3, (World.cell?_of_block (a := ⟨db, 3, none⟩) (hb'.block db (by omega))).trans b3,
          run_loadCG (rangeAt_keep (rangeAt_keep hrg (hb.block kb hkb)) (hb'.block kb (by omega))) hv4, run_loadCG (rangeAt_keep (rangeAt_keep hrg2 (hb.block kb2 hkb2)) (hb'.block kb2 (by omega))) hv42⟩
      have hcall := fun W' (hb' : Below wr.heap.size wr W') => IH.out _ l[j] _ _ W' ((RdC.below hb hrd).below hb') ((RdC.below hb hrd2).below hb') (HM.out.2 _ (List.getElem_mem hjl))
      have HS := Lib.hid hS
      have HC := Lib.hid hcall
      have BD := Lib.hid (bel_drewS wr)
      clear hkb hrg hrd hkb2 hrg2 hrd2 hv4 hv42 hS hcall hb hjl
      go_wp2_with fail
      first
        | go_region_held3 (fun W' => W'.cell? ⟨cb, 3, none⟩ = some (.slice (some ⟨kb, ko, none⟩) m cap) ∧ W'.cell? ⟨db, 3, none⟩ = some (.slice (some ⟨kb2, ko2, none⟩) m cap2) ∧ (loadC (.pointer (some ⟨kb, ko + j * 4, none⟩))).run Tryz.prog W' = .ok (.agg vs.toArray) W' ∧ (loadC (.pointer (some ⟨kb2, ko2 + j * 4, none⟩))).run Tryz.prog W' = .ok (.agg vs2.toArray) W')
            (first | exact HS.out _ B1.out | exact HS.out _ BD.out | fail)
            (first
              | (go_at_call 28; with_reducible refine (HC.out _ BD.out).mono ?_; rintro x w1 ⟨rfl, hb⟩; have B1 := Lib.hid (BD.out.trans (hb.mono BD.out.size)); clear hb)
              | fail)
        | fail
      all_goals go_wp2_with fail
      go_roundw
      case rel => exact ⟨j + 1, by omega, by go_num, HBW.out.trans (B1.out.mono HBW.out.size)⟩
      case measure => simp [intOf]; omega
    · obtain rfl : j = m := by omega
      have hge : ¬ (j : Int) < j := by omega
      clear hlt hj
      go_wp2_with fail
      exact bodyPost_ret (v := .bool true) (by simp [results, Tryz.results28, go_sem]) rfl ⟨rfl, HB.out.trans (HBW.out.mono HB.out.size)⟩
end Go.Proofs.YtcfcfijmfgnpfaaGreatDoor
end

section
namespace Go.Proofs.YtcfcfijmfgnpfaaGreatDoor
open Go.RowKit
set_option linter.unusedVariables false
set_option linter.unusedSimpArgs false

theorem ByL.lt {l : List Nat} (h : ByL l) : ∀ c ∈ l, c < 256 := h.1
theorem bytes_Equal (v u : Value) (a b : List Nat) (w : World) (ha : RdB w v a) (hb : RdB w u b) (a256 : ∀ x ∈ a, x < 256) (b256 : ∀ x ∈ b, x < 256) :
    Calls Tryz.prog 70 #[v, u] w fun x w' => x = .returned (.bool (decide (a = b))) ∧ Below w.heap.size w w' := by
  have h1 := run_str ha a256
  have h2 := run_str hb b256
  by_cases h : a = b
  · have hst : ((strN a).toList == (strN b).toList) = true := by rw [h]; simp
    rw [decide_eq_true h]
    clear h
    go_enter Tryz.func70, Tryz.ntmps70
    go_wp2_with fail
    go_ret
    exact ⟨by rfl, Below.refl _ _⟩
  · have hst : ((strN a).toList == (strN b).toList) = false := by rw [beq_eq_false_iff_ne]; exact fun e => h ((strN_eq a256 b256).1 e)
    rw [decide_eq_false h]
    clear h
    go_enter Tryz.func70, Tryz.ntmps70
    go_wp2_with fail
    go_ret
    exact ⟨by rfl, Below.refl _ _⟩
theorem results_cellT {P : Program} {fn : Func} {tmps : Array Value} {w : World} {a b : Nat} {t : TypeId} {ad : Addr} {v u : Value} (hf : fn.results = #[.cell a t, .tmp b]) (ha : tmps.getD a undef = .pointer (some ad)) (hu : tmps.getD b undef = u) (h : (loadVar t ad).run P w = .ok v w) : (results fn tmps).run P w = .ok (.tuple #[v, u]) w := by
  unfold results
  rw [hf]
  have ha' : tmps[a]?.getD undef = .pointer (some ad) := by simpa using ha
  have hu' : tmps[b]?.getD undef = u := by simpa using hu
  simp [Array.mapM_eq_mapM_toList, ha', hu', asAddr, Sem.run_bind, h, Result.andThen]
theorem run_lvC {w : World} {b : Nat} {y : C4} (h : w.heap[b]? = some (.cells (c4 y).toArray 45 (0, 0))) : (loadVar 45 ⟨b, 0, none⟩).run Tryz.prog w = .ok (.agg (c4 y).toArray) w := by
  have q := run_loadCG (rangeAt_whole h) rfl
  unfold loadC Instr.loadAt at q
  simpa [Instr.sureAddr] using q
theorem rc3 (v : Value) (l : List Nat) (c : Cl) (w : World) (hr : RdB w v l) (hby : ByL l) (hc : readC 3 l = c) : Calls Tryz.prog 69 #[v, .int .i64 3] w fun e w' => ∃ (a2 : Option Addr) (c2 : Nat), e = .returned (.agg #[.int .i64 c.k, .int .i64 c.t, .int .i64 c.n, .slice a2 c.kids.length c2]) ∧ RdZ (fun b => b < w.heap.size) w' 4 (.agg #[.int .i64 c.k, .int .i64 c.t, .int .i64 c.n, .slice a2 c.kids.length c2]) c ∧ Below w.heap.size w w' := by
  refine (code_readCall 3 (by decide) v l w hr hby).mono ?_
  rintro e w' ⟨u, rfl, hz, hb⟩
  rw [hc] at hz
  obtain ⟨a2, c2, rfl⟩ := hz.cells
  exact ⟨a2, c2, rfl, hz, hb⟩
set_option maxHeartbeats 8000000 in
set_option maxRecDepth 100000 in
theorem code_DecodeCallOk (v : Value) (l : List Nat) (c : Cl) (w : World) (hr : RdB w v l) (hby : ByL l) (hok : okC 3 c = true) (hl : l = layT c) :
    Calls Tryz.prog 52 #[v] w fun x w' => ∃ y : C4, x = .returned (.tuple #[.agg (c4 y).toArray, .int .i64 0]) ∧ RdZ (fun b => b < w.heap.size) w' 4 (.agg (c4 y).toArray) c ∧ Below w.heap.size w w' := by
  have hrc : readC 3 l = c := by rw [hl]; exact readC_layT 3 c (Nat.le_refl 3) hok
  obtain ⟨ao, cap, hv⟩ := hr.lenOf
  obtain ⟨m, hm⟩ : ∃ m, m = l.length := ⟨_, rfl⟩
  rw [← hm] at hv
  subst hv
  obtain ⟨W1, hW1⟩ : ∃ W1, W1 = w.alloc (.cells zero4 45) := ⟨_, rfl⟩
  obtain ⟨rs, hrs⟩ : ∃ b, b = w.heap.size := ⟨_, rfl⟩
  have hb1 : Below w.heap.size w W1 := by rw [hW1]; exact bel_alloc _ _
  have hat : W1.heap[rs]? = some (.cells zero4 45 (0, 0)) := by rw [hW1, hrs]; exact World.alloc_heap_new _ _
  have HW := Lib.hid (And.intro hW1 hrs)
  have H1 := Lib.hid (And.intro hb1 hat)
  have HR := Lib.hid hr
  have HBY := Lib.hid hby
  have HOK := Lib.hid hok
  have HLL := Lib.hid (And.intro hl hrc)
  clear hr hby hm hW1 hrs hb1 hat hok hl hrc
  obtain ⟨k, hk⟩ : ∃ k, k = c.k := ⟨_, rfl⟩
  obtain ⟨t, ht⟩ : ∃ t, t = c.t := ⟨_, rfl⟩
  obtain ⟨n, hn⟩ : ∃ n, n = c.n := ⟨_, rfl⟩
  obtain ⟨nk, hnk⟩ : ∃ n, n = c.kids.length := ⟨_, rfl⟩
  go_enter Tryz.func52, Tryz.ntmps52
  go_upto_region 1 with fail
  rw [← HW.out.1, ← HW.out.2]
  go_upto_region 2 with (first
    | (go_at_call 69; with_reducible refine (rc3 _ l c _ (HR.out.below H1.out.1) HBY.out HLL.out.2).mono ?_; rintro x w2 ⟨a2, c2, rfl, hz, hb⟩; have Z2 := Lib.hid hz; have B2 := Lib.hid hb; clear hz hb)
    | fail)
  rw [← hk, ← ht, ← hn, ← hnk] at Z2
  rw [← hk, ← ht, ← hn, ← hnk]
  clear hk ht hn hnk
  obtain ⟨eb, heb⟩ : ∃ b, b = w2.heap.size := ⟨_, rfl⟩
  obtain ⟨Wd, hWd⟩ : ∃ Wd, Wd = w2.alloc (.cells #[.int .i64 k, .int .i64 t, .int .i64 n, .slice a2 nk c2] 45) := ⟨_, rfl⟩
  have hatd : Wd.heap[eb]? = some (.cells #[.int .i64 k, .int .i64 t, .int .i64 n, .slice a2 nk c2] 45 (0, 0)) := by rw [hWd, heb]; exact World.alloc_heap_new _ _
  have hbd : Below w2.heap.size w2 Wd := by rw [hWd]; exact bel_alloc w2 _
  rw [← hWd, ← heb]
  have hb2 := B2.out
  have h1 := H1.out.1
  have hrl : rs < W1.heap.size := (Array.getElem?_eq_some_iff.1 H1.out.2).1
  have D1 := Lib.hid (show Below w.heap.size w Wd from (h1.trans (hb2.mono h1.size)).trans (hbd.mono (Nat.le_trans h1.size hb2.size)))
  have AT := Lib.hid hatd
  have RS := Lib.hid ((hbd.block rs (by have := hb2.size; omega)).trans ((hb2.block rs hrl).trans H1.out.2))
  have hZ : RdZ (fun b => b < W1.heap.size) Wd 4 (.agg #[.int .i64 k, .int .i64 t, .int .i64 n, .slice a2 nk c2]) c := RdZ.keep hbd.size (fun _ _ z => z) (fun x hx _ => hbd.block x hx) Z2.out
  have Z1 := Lib.hid hZ
  have EG := Lib.hid (enc_good hZ.toC HOK.out)
  have HRL := Lib.hid (And.intro hrl HW.out.2)
  have LT := Lib.hid (layT_lt c)
  clear hatd hbd hb2 h1 hrl hZ hWd heb B2 Z2
  go_wp2_with (first
    | (refine wpl_loadC _ rfl rfl rfl (rangeAt_whole A4.out) rfl ?_)
    | (refine wpl_loadC _ rfl rfl rfl (rangeAt_whole AT.out) rfl ?_)
    | (go_at_call 43; with_reducible refine EG.out.mono ?_; rintro x w3 ⟨u3, rfl, ho, hb⟩; have D3 := Lib.hid (D1.out.trans (hb.mono D1.out.size)); have A3 := Lib.hid ((hb.block eb (Array.getElem?_eq_some_iff.1 AT.out).1).trans AT.out); have R3 := Lib.hid ((hb.block rs (Array.getElem?_eq_some_iff.1 RS.out).1).trans RS.out); have Z3 := Lib.hid (RdZ.keep hb.size (fun _ _ z => z) (fun x hx _ => hb.block x hx) Z1.out); have O3 := Lib.hid ho.reads; clear ho hb)
    | (go_at_call 70; with_reducible refine (bytes_Equal _ _ _ l _ O3.out (HR.out.below D3.out) LT.out HBY.out.lt).mono ?_; rw [decide_eq_true HLL.out.1.symm]; rintro x w4 ⟨rfl, hb⟩; have D4 := Lib.hid (D3.out.trans (hb.mono D3.out.size)); have A4 := Lib.hid ((hb.block eb (Array.getElem?_eq_some_iff.1 A3.out).1).trans A3.out); have R4 := Lib.hid ((hb.block rs (Array.getElem?_eq_some_iff.1 R3.out).1).trans R3.out); have Z4 := Lib.hid (RdZ.keep hb.size (fun _ _ z => z) (fun x hx _ => hb.block x hx) Z3.out); clear hb)
    | (refine wpl_storeD (vs := #[.int .i64 k, .int .i64 t, .int .i64 n, .slice a2 nk c2]) _ _ rfl rfl rfl rfl R4.out rfl rfl (ones4D k t n _ _ _) ?_)
    | fail)
  have hfin := setRow_heap w4 _ _ #[.int .i64 k, .int .i64 t, .int .i64 n, .slice a2 nk c2] _ _ R4.out
  have ho : ∀ x, x ≠ rs → (w4.setRow rs #[.int .i64 k, .int .i64 t, .int .i64 n, .slice a2 nk c2]).heap[x]? = w4.heap[x]? := fun x hx => setRow_other _ _ _ _ hx
  have hs4 : (w4.setRow rs #[.int .i64 k, .int .i64 t, .int .i64 n, .slice a2 nk c2]).heap.size = w4.heap.size := by simp
  have hlv := run_lvC (y := (k, t, n, a2, nk, c2)) hfin
  have hq := HRL.out
  have hd4 := D4.out
  exact bodyPost_ret (v := .tuple #[.agg #[.int .i64 k, .int .i64 t, .int .i64 n, .slice a2 nk c2], .int .i64 0]) (results_cellT Tryz.results52 rfl rfl hlv) rfl
    ⟨(k, t, n, a2, nk, c2), rfl, RdZ.keep (by omega) (fun x _ hx => by have h1 : x < w.heap.size := hx; show x < W1.heap.size; omega) (fun x _ hx => ho x (fun e => hx (by show x < W1.heap.size; omega))) Z4.out, hd4.trans ⟨rfl, rfl, rfl, by omega, fun x hx => ho x (by omega)⟩⟩
end Go.Proofs.YtcfcfijmfgnpfaaGreatDoor
end

section
namespace Go.Proofs.YtcfcfijmfgnpfaaGreatDoor
open Go.RowKit Go.Maps
set_option linter.unusedVariables false
set_option linter.unusedSimpArgs false

/-- A ledger in memory. -/
def ldM (g : Nat) (A : Acc) (M : Cls Int) : Mem where
  is F w := LdX g 0 A M F w
  keep h hg hk := h.keep hg hk
  lt h hk := h.lt hk
theorem outL_lt (h : List Nat) : ∀ x ∈ outL h, x < 256 := by
  intro x hx
  unfold outL at hx
  obtain ⟨i, -, rfl⟩ := List.mem_map.1 hx
  exact Nat.mod_lt _ (by decide)
/-- A call's digest. -/
def dgOf (c : Cl) : Dg := ⟨keyedL [] (sumT c), outL_len _, outL_lt _⟩
theorem numL_pos (n : Nat) : 0 < (numL n).length := by
  unfold numL
  split
  · simp [lowL_length]
  · split
    · simp [lowL_length]
    · split
      · simp [lowL_length]
      · simp
theorem layT_pos (c : Cl) : 0 < (layT c).length := by
  obtain ⟨k, t, n, l⟩ := c
  rw [layT, List.length_append]
  have h : 0 < (numsL [k, t, n, (l.length : Int)]).length := by
    rw [numsL, List.length_append]
    have := numL_pos (heldN k)
    omega
  omega
/-- A block of bytes. -/
def U8At (w : World) (k : Nat) : Prop := ∃ x, w.cell? ⟨k, 0, none⟩ = some (.int .u8 x)
theorem U8At.noMap {w : World} {k : Nat} (h : U8At w k) {es : Array MapEntry} {clock : Nat} (e : w.heap[k]? = some (.map es clock)) : False := by
  obtain ⟨x, hx⟩ := h
  rw [World.cell?, e] at hx; cases hx
/-- What is noted at a digest lies there. -/
structure NtOk (F : FP) (w : World) (x : Nt) (q : Int × Cl) : Prop where
  who : x.who = q.1
  ok : okC 3 q.2 = true
  at_ : ∃ g, x.b = some g ∧ F g ∧ RdB w x.v (layT q.2)
theorem NtOk.cells {F : FP} {w : World} {x : Nt} {q : Int × Cl} (h : NtOk F w x q) : ∃ g, x.b = some g ∧ F g ∧ g < w.heap.size ∧ U8At w g ∧ ∀ w', w'.heap[g]? = w.heap[g]? → RdB w' x.v (layT q.2) := by
  obtain ⟨g, hb, hF, hr⟩ := h.at_
  have hp := layT_pos q.2
  have hr0 := hr
  rcases hr with ⟨-, e⟩ | ⟨a, cap, hv, hc, hcell⟩
  · rw [e] at hp; simp at hp
  · unfold Nt.v at hv
    rw [hb] at hv
    simp only [Option.map_some, Value.slice.injEq, Option.some.injEq] at hv
    obtain ⟨rfl, hn, hcp⟩ := hv
    have hadd : ∀ i, (⟨g, 0, none⟩ : Addr).add i = ⟨g, i, none⟩ := fun i => by simp [Addr.add]; omega
    have h0 := hcell 0 hp
    have hlt : g < w.heap.size := by
      have := cell_block h0
      exact this
    rw [hadd] at h0
    refine ⟨g, hb, hF, hlt, ⟨_, h0⟩, fun w' hk => ?_⟩
    · rcases hr0 with h | ⟨a, cap', hv, hc, hcell'⟩
      · exact .inl h
      · refine .inr ⟨a, cap', hv, hc, fun i hi => ?_⟩
        unfold Nt.v at hv
        rw [hb] at hv
        simp only [Option.map_some, Value.slice.injEq, Option.some.injEq] at hv
        obtain ⟨rfl, -, -⟩ := hv
        have := hcell' i hi
        rw [hadd] at this ⊢
        exact (World.cell?_of_block (a := ⟨g, i, none⟩) hk).trans this
theorem NtOk.keep {F F' : FP} {w w' : World} {x : Nt} {q : Int × Cl} (h : NtOk F w x q) (hF : ∀ k, F k → k < w.heap.size → U8At w k → F' k ∧ w'.heap[k]? = w.heap[k]?) : NtOk F' w' x q := by
  obtain ⟨g, h1, h2, h3, h4, h5⟩ := h.cells
  obtain ⟨h6, h7⟩ := hF g h2 h3 h4
  exact ⟨h.who, h.ok, g, h1, h6, h5 w' h7⟩
def NtRel (F : FP) (w : World) (m : List (Dg × Nt)) (P : List (Dg × (Int × Cl))) : Prop :=
  SrtD P ∧ ∀ d, (dget m d = none ↔ dget P d = none) ∧ ∀ x q, dget m d = some x → dget P d = some q → NtOk F w x q
theorem NtRel.keep {F F' : FP} {w w' : World} {m : List (Dg × Nt)} {P : List (Dg × (Int × Cl))} (h : NtRel F w m P) (hF : ∀ k, F k → k < w.heap.size → U8At w k → F' k ∧ w'.heap[k]? = w.heap[k]?) : NtRel F' w' m P :=
  ⟨h.1, fun d => ⟨(h.2 d).1, fun x q hx hq => ((h.2 d).2 x q hx hq).keep hF⟩⟩
theorem NtRel.who {F : FP} {w : World} {m : List (Dg × Nt)} {P : List (Dg × (Int × Cl))} (hs : SrtD m) (h : NtRel F w m P) : whoL m = P.map fun x => (x.1, x.2.1) := by
  have s1 : SrtD (whoL m) := List.pairwise_map.2 hs
  have s2 : SrtD (P.map fun x => (x.1, x.2.1)) := List.pairwise_map.2 h.1
  refine s1.ext s2 (fun y => ?_)
  unfold whoL
  simp only [List.mem_map]
  constructor
  · rintro ⟨x, hx, rfl⟩
    have h1 := hs.get.2 (show (x.1, x.2) ∈ m from hx)
    cases hq : dget P x.1 with
    | none => rw [(h.2 x.1).1.2 hq] at h1; cases h1
    | some q => exact ⟨(x.1, q), dget_mem hq, by rw [((h.2 x.1).2 _ _ h1 hq).who]⟩
  · rintro ⟨x, hx, rfl⟩
    have h1 := h.1.get.2 (show (x.1, x.2) ∈ P from hx)
    cases hq : dget m x.1 with
    | none => rw [(h.2 x.1).1.1 hq] at h1; cases h1
    | some q => exact ⟨(x.1, q), dget_mem hq, by rw [((h.2 x.1).2 _ _ hq h1).who]⟩
theorem NtRel.len {F : FP} {w : World} {m : List (Dg × Nt)} {P : List (Dg × (Int × Cl))} (hs : SrtD m) (h : NtRel F w m P) : m.length = P.length := by
  have := congrArg List.length (h.who hs)
  simpa [whoL] using this
/-- What is noted, and what is wanted. -/
structure PrAt (pb : Nat) (P : List (Dg × (Int × Cl))) (U : List (Dg × Int)) (F : FP) (o o2 : Option Nat) (m : List (Dg × Nt)) (w : World) : Prop where
  blk : w.heap[pb]? = some (.cells #[.map o, .map o2] 94 (0, 0))
  mo : MapO codNt o m w
  mu : MapO codI o2 U w
  rel : NtRel F w m P
  fo : ∀ b, o = some b → F b
  fu : ∀ b, o2 = some b → F b
  ne : ∀ b, o = some b → o2 ≠ some b
  own : F pb
  lt : ∀ k, F k → k < w.heap.size
section
variable {pb : Nat} {P : List (Dg × (Int × Cl))} {U : List (Dg × Int)} {F : FP} {o o2 : Option Nat} {m : List (Dg × Nt)} {w w' : World}
theorem PrAt.keep (h : PrAt pb P U F o o2 m w) (hs : w.heap.size ≤ w'.heap.size) (hk : ∀ k, F k → w'.heap[k]? = w.heap[k]?) : PrAt pb P U F o o2 m w' :=
  ⟨(hk pb h.own).trans h.blk, h.mo.keep (fun b e => hk b (h.fo b e)), h.mu.keep (fun b e => hk b (h.fu b e)), h.rel.keep (fun k hF _ _ => ⟨hF, hk k hF⟩), h.fo, h.fu, h.ne, h.own, fun k hF => Nat.lt_of_lt_of_le (h.lt k hF) hs⟩
theorem PrAt.c0 (h : PrAt pb P U F o o2 m w) : w.cell? ⟨pb, 0, none⟩ = some (.map o) := by rw [World.cell?, h.blk]; rfl
theorem PrAt.c1 (h : PrAt pb P U F o o2 m w) : w.cell? ⟨pb, 1, none⟩ = some (.map o2) := by rw [World.cell?, h.blk]; rfl
theorem PrAt.fz (h : PrAt pb P U F o o2 m w) (i : Nat) : w.frozen? ⟨pb, i, none⟩ = false := by simp [World.frozen?, h.blk]
theorem MapO.notCells {β : Type} {c : Cod β} {o : Option Nat} {l : List (Dg × β)} (h : MapO c o l w) {b : Nat} (e : o = some b) : ∃ es clock, w.heap[b]? = some (.map es clock) := by
  rcases h with ⟨rfl, -⟩ | ⟨b', e', h⟩
  · cases e
  · rw [e'] at e; cases e; exact h.isMap
theorem PrAt.pbNe (h : PrAt pb P U F o o2 m w) : (∀ b, o = some b → b ≠ pb) ∧ (∀ b, o2 = some b → b ≠ pb) := by
  constructor
  · intro b e q
    obtain ⟨es, clock, hh⟩ := h.mo.notCells e
    rw [q, h.blk] at hh; cases hh
  · intro b e q
    obtain ⟨es, clock, hh⟩ := h.mu.notCells e
    rw [q, h.blk] at hh; cases hh
end
def prM (pb : Nat) (P : List (Dg × (Int × Cl))) (U : List (Dg × Int)) : Mem where
  is F w := ∃ o o2 m, PrAt pb P U F o o2 m w
  keep := by
    rintro F w w' ⟨o, o2, m, h⟩ hg hk
    exact ⟨o, o2, m, h.keep hg.size hk⟩
  lt := by
    rintro F w k ⟨o, o2, m, h⟩ hk
    exact h.lt k hk
/-- The wanted map written. -/
theorem PrAt.setU {pb : Nat} {P : List (Dg × (Int × Cl))} {U U' : List (Dg × Int)} {F : FP} {o o2 : Option Nat} {m : List (Dg × Nt)} {w w' : World} {b : Nat} (h : PrAt pb P U F o o2 m w) (hb : o2 = some b) (hm : MapD codI b U' w') (hg : w.grownBy w' (some b)) : (prM pb P U').to F w w' := by
  have hbne := h.pbNe.2 b hb
  refine ⟨F, ⟨o, o2, m, ⟨(hg.block pb (h.lt pb h.own) (fun e => by cases e; exact hbne rfl)).trans h.blk, h.mo.keep (fun b' e => hg.block b' (h.mo.lt e) (fun q => by cases q; exact h.ne b e hb)), .inr ⟨b, hb, hm⟩, h.rel.keep (fun k hF hk hn => ⟨hF, hg.block k hk (fun q => by cases q; obtain ⟨es, cl, hh⟩ := h.mu.notCells hb; exact (hn.noMap hh).elim)⟩), h.fo, h.fu, h.ne, h.own, fun k hF => Nat.lt_of_lt_of_le (h.lt k hF) hg.size⟩⟩, fun k hF => .inl hF, ⟨⟨hg.os, hg.tape, hg.output, hg.size⟩, fun k hk h1 _ => hg.block k hk (fun q => by cases q; exact h1 (h.fu b hb))⟩⟩
/-- The notes' map written, nothing new noted. -/
theorem PrAt.setM {pb : Nat} {P P' : List (Dg × (Int × Cl))} {U : List (Dg × Int)} {F : FP} {o o2 : Option Nat} {m m' : List (Dg × Nt)} {w w' : World} {b : Nat} (h : PrAt pb P U F o o2 m w) (hb : o = some b) (hm : MapD codNt b m' w') (hr : NtRel F w m' P') (hg : w.grownBy w' (some b)) : (prM pb P' U).to F w w' := by
  have hbne := h.pbNe.1 b hb
  refine ⟨F, ⟨o, o2, m', ⟨(hg.block pb (h.lt pb h.own) (fun e => by cases e; exact hbne rfl)).trans h.blk, .inr ⟨b, hb, hm⟩, h.mu.keep (fun b' e => hg.block b' (h.mu.lt e) (fun q => by cases q; exact h.ne b hb e)), hr.keep (fun k hF hk hn => ⟨hF, hg.block k hk (fun q => by cases q; obtain ⟨es, cl, hh⟩ := h.mo.notCells hb; exact (hn.noMap hh).elim)⟩), h.fo, h.fu, h.ne, h.own, fun k hF => Nat.lt_of_lt_of_le (h.lt k hF) hg.size⟩⟩, fun k hF => .inl hF, ⟨⟨hg.os, hg.tape, hg.output, hg.size⟩, fun k hk h1 _ => hg.block k hk (fun q => by cases q; exact h1 (h.fo b hb))⟩⟩
/-- An entry made ready: what stood there is still found, or what is nothing; then it is written. -/
theorem MapD.entry {β : Type} {c : Cod β} {b : Nat} {m : List (Dg × β)} {w : World} {t e : TypeId} {z0 : β} (h : MapD c b m w) (ht : Tryz.prog.underlying t = some (.map 41 e)) (hz : ∀ w, (zeroValue e).run Tryz.prog w = .ok (c.enc z0) w) (hn : m.length < maxLen) (k : Dg) :
    ∃ (v0 : Value) (st : Nat) (w1 : World), (Instr.mapEntry t (.map (some b)) (dv k)).run Tryz.prog w = .ok (.tuple #[v0, .int .i64 st]) w1 ∧ w.grownBy w1 (some b) ∧ w1.heap.size = w.heap.size ∧
      (Instr.lookup t (.map (some b)) (dv k) false).run Tryz.prog w1 = .ok (c.enc ((dget m k).getD z0)) w1 ∧
      ∀ v, ∃ w2, (Instr.entryStore t (.map (some b)) (.int .i64 st) (c.enc v)).run Tryz.prog w1 = .ok () w2 ∧ MapD c b (dput m k v) w2 ∧ w.grownBy w2 (some b) ∧ w2.heap.size = w.heap.size := by
  have hst := fun v => h.store ht hn k v
  have hlk := h.look ht (hz w) k
  have hh := h
  obtain ⟨n, D, ho, h1, h2⟩ := h.own
  obtain ⟨es, clock, hb, Fi, hs, rfl⟩ := ho
  obtain ⟨v0, st, es1, clock1, hr1, hv, hr2⟩ := Go.WideElems.entry_then_store lawH ht hz hb Fi (keyD k)
  have hlt : b < w.heap.size := (Array.getElem?_eq_some_iff.1 hb).1
  have hg : ∀ es' cl', w.grownBy (Go.ChangeMaps.setBlock w b (.map es' cl')) (some b) := fun es' cl' => ⟨rfl, rfl, rfl, by simp [Go.ChangeMaps.setBlock], fun j hj hne => by
    simp only [Go.ChangeMaps.setBlock]
    rw [Array.getElem?_setIfInBounds_ne]
    intro q; exact hne (by rw [q])⟩
  have hl1 : (Instr.lookup t (.map (some b)) (dv k) false).run Tryz.prog (Go.ChangeMaps.setBlock w b (.map es1 clock1)) = .ok (c.enc ((dget m k).getD z0)) (Go.ChangeMaps.setBlock w b (.map es1 clock1)) := by
    rcases keyedH.find w (keyD k) es.toList Fi.keys with ⟨q1, q2⟩ | ⟨j, e0, q1, q2, q3⟩
    · have e1 : (Instr.lookup t (.map (some b)) (dv k) false).run Tryz.prog w = .ok (c.enc z0) w := by simp [Instr.lookup, run_underlying ht, MapKept.run_getObj_map hb, keyedH.check w _ (keyD k), q1, hz, Result.andThen]
      rw [e1] at hlk
      have ez : c.enc z0 = c.enc ((dget m k).getD z0) := by simpa using hlk
      obtain ⟨w', p1, p2, p3, p4⟩ := hst z0
      have e2 : (Instr.mapEntry t (.map (some b)) (dv k)).run Tryz.prog w = .ok (.tuple #[c.enc z0, goInt clock]) (Go.ChangeMaps.setBlock w b (.map (es.push ⟨dv k, c.enc z0, clock⟩) (clock + 1))) := by
        simp [Instr.mapEntry, run_underlying ht, MapKept.run_getObj_map hb, keyedH.check w false (keyD k), q1, hz, MapKept.run_setObj_map _ hb, Result.andThen, Go.ChangeMaps.setBlock]
      have e3 : (Instr.mapUpdate t (.map (some b)) (dv k) (c.enc z0)).run Tryz.prog w = .ok () (Go.ChangeMaps.setBlock w b (.map (es.push ⟨dv k, c.enc z0, clock⟩) (clock + 1))) := by
        simp [Instr.mapUpdate, run_underlying ht, MapKept.run_getObj_map hb, keyedH.check w false (keyD k), q1, MapKept.run_setObj_map _ hb, Result.andThen, Go.ChangeMaps.setBlock]
      rw [e2] at hr1
      have ew : Go.ChangeMaps.setBlock w b (.map (es.push ⟨dv k, c.enc z0, clock⟩) (clock + 1)) = Go.ChangeMaps.setBlock w b (.map es1 clock1) := by injection hr1
      rw [e3] at p1
      have ep : Go.ChangeMaps.setBlock w b (.map (es.push ⟨dv k, c.enc z0, clock⟩) (clock + 1)) = w' := by injection p1
      have hl := p2.look ht (hz w') k
      rw [hh.srt.get_put, if_pos rfl, Option.getD_some, ez] at hl
      rw [← ew, ep]
      exact hl
    · have hj : es[j]? = some e0 := by simpa using q2
      have hsame : es.modify j (fun e => { e with key := dv k }) = es := by
        apply Array.ext'
        rw [Array.toList_modify, Go.ChangeMaps.modify_eq_set _ _ _ _ q2]
        have : ({ e0 with key := dv k } : MapEntry) = e0 := by rw [← q3]
        rw [this]
        exact Go.WideElems.set_self _ _ _ q2
      have e2 : (Instr.mapEntry t (.map (some b)) (dv k)).run Tryz.prog w = .ok (.tuple #[e0.val, goInt e0.born]) (Go.ChangeMaps.setBlock w b (.map es clock)) := by
        simp [Instr.mapEntry, run_underlying ht, MapKept.run_getObj_map hb, keyedH.check w false (keyD k), q1, hj, q3, keyedH.stays w (keyD k), hsame, MapKept.run_setObj_map _ hb, Result.andThen, Go.ChangeMaps.setBlock]
      rw [e2] at hr1
      have ew : Go.ChangeMaps.setBlock w b (.map es clock) = Go.ChangeMaps.setBlock w b (.map es1 clock1) := by injection hr1
      rw [← ew]
      exact (hh.block (w' := Go.ChangeMaps.setBlock w b (.map es clock)) (by rw [Go.ChangeMaps.heap_setBlock_same hb, hb])).look ht (hz _) k
  refine ⟨v0, st, _, hr1, hg _ _, by simp [Go.ChangeMaps.setBlock], hl1, fun v => ?_⟩
  obtain ⟨es', cl', e1, e2⟩ := hr2 _ (c.enc v) (Go.ChangeMaps.heap_setBlock_same hb _)
  obtain ⟨w', q1, q2, q3, q4⟩ := hst v
  rw [e2] at q1
  have : w' = Go.ChangeMaps.setBlock w b (.map es' cl') := by cases q1; rfl
  have hss : Go.ChangeMaps.setBlock (Go.ChangeMaps.setBlock w b (.map es1 clock1)) b (.map es' cl') = Go.ChangeMaps.setBlock w b (.map es' cl') := by simp [Go.ChangeMaps.setBlock]
  refine ⟨_, e1, ?_, ?_, ?_⟩
  · rw [hss, ← this]; exact q2
  · rw [hss, ← this]; exact q3
  · rw [hss, ← this]; exact q4
end Go.Proofs.YtcfcfijmfgnpfaaGreatDoor
end

section
namespace Go.Proofs.YtcfcfijmfgnpfaaGreatDoor
open Go.RowKit Go.Maps
set_option linter.unusedVariables false
set_option linter.unusedSimpArgs false

def wantN (U : List (Dg × Int)) (d : Dg) : Int := (dget U d).getD 0
theorem pre_New (w : World) : Calls Tryz.prog 13 #[] w fun e w' => e = .returned (.pointer (some ⟨w.heap.size, 0, none⟩)) ∧ w' = w.alloc (.cells #[.map none, .map none] 94) := by
  go_enter Tryz.func13, Tryz.ntmps13
  go_wp2
  go_ret
  exact ⟨rfl, rfl⟩
theorem prM_new (w : World) : (prM w.heap.size [] []).is (fun k => k = w.heap.size) (w.alloc (.cells #[.map none, .map none] 94)) :=
  ⟨none, none, [], ⟨World.alloc_heap_new _ _, .inl ⟨rfl, rfl⟩, .inl ⟨rfl, rfl⟩, ⟨List.Pairwise.nil, fun d => ⟨by simp [dget], fun x q h => by simp [dget] at h⟩⟩, (fun b e => by cases e), (fun b e => by cases e), (fun b e => by cases e), rfl, (fun k hk => by subst hk; simp)⟩⟩
theorem infoHD (d : Dg) : (Tryz.prog.info? 41).map (·.size) = some (Bs d.s).length := by rw [d.blen]; kernel_rfl
theorem hash_lt {w : World} {b : Nat} {d : Dg} (h : w.rangeAt b 0 (Bs d.s)) : b < w.heap.size := by
  have q := h 0 _ (show (Bs d.s)[0]? = some _ from List.getElem?_eq_getElem (by rw [d.blen]; decide))
  by_cases e : b < w.heap.size
  · exact e
  · rw [World.cell?, Array.getElem?_eq_none (by show w.heap.size ≤ b; omega)] at q
    cases q
theorem hash_noMap {w : World} {b : Nat} {d : Dg} (h : w.rangeAt b 0 (Bs d.s)) {es : Array MapEntry} {cl : Nat} (e : w.heap[b]? = some (.map es cl)) : False := by
  have q := h 0 _ (show (Bs d.s)[0]? = some _ from List.getElem?_eq_getElem (by rw [d.blen]; decide))
  rw [World.cell?] at q
  simp only [e] at q
  cases q
theorem hashBox {w : World} {d : Dg} : (w.alloc (.cells (Bs d.s).toArray 41)).rangeAt w.heap.size 0 (Bs d.s) := rangeAt_whole (T := hshR.T) (World.alloc_heap_new _ _)
set_option maxRecDepth 100000 in
set_option maxHeartbeats 2000000 in
theorem pre_Wanted {pb : Nat} {P : List (Dg × (Int × Cl))} {U : List (Dg × Int)} {F : FP} {w : World} (h : (prM pb P U).is F w) (d : Dg) : Calls Tryz.prog 26 #[.pointer (some ⟨pb, 0, none⟩), .agg (Bs d.s).toArray] w fun e w' => e = .returned (.int .i64 (wantN U d)) ∧ Below w.heap.size w w' := by
  obtain ⟨o, o2, m, hp⟩ := h
  obtain ⟨W, hW⟩ : ∃ W, W = w.alloc (.cells (Bs d.s).toArray 41) := ⟨_, rfl⟩
  have hb : Below w.heap.size w W := by rw [hW]; exact (Below.refl _ w).alloc (Nat.le_refl _) _
  have hpW : PrAt pb P U F o o2 m W := hp.keep hb.size (fun k hk => hb.block k (hp.lt k hk))
  have hbox : W.rangeAt w.heap.size 0 (Bs d.s) := by rw [hW]; exact hashBox
  have c1 : W.drew.cell? ⟨pb, 1, none⟩ = some (.map o2) := hpW.c1
  have hrg : W.drew.rangeAt w.heap.size 0 (Bs d.s) := hbox
  have lk : (Instr.lookup 92 (.map o2) (dv d) false).run Tryz.prog W.drew = .ok (codI.enc (wantN U d)) W.drew := (MapO.keep (w' := W.drew) hpW.mu (fun b _ => rfl)).look Tryz.underlying92 zIn d
  obtain ⟨r, hr⟩ : ∃ r, r = wantN U d := ⟨_, rfl⟩
  rw [← hr] at lk ⊢
  have lk : (Instr.lookup 92 (.map o2) (.agg (Bs d.s).toArray) false).run Tryz.prog W.drew = .ok (.int .i64 r) W.drew := lk
  have HW := Lib.hid (And.intro hW hb)
  clear hp hpW hbox hr hb hW
  go_enter Tryz.func26, Tryz.ntmps26
  go_upto_region 3 with fail
  rw [← HW.out.1]
  have K := Lib.hid (And.intro c1 (And.intro hrg lk))
  have hu := Tryz.underlying41
  have hsz := infoHD d
  clear c1 hrg lk
  first | go_region_held3 (fun w' => w'.cell? ⟨pb, 1, none⟩ = some (.map o2) ∧ w'.rangeAt w.heap.size 0 (Bs d.s) ∧ (Instr.lookup 92 (.map o2) (.agg (Bs d.s).toArray) false).run Tryz.prog w' = .ok (.int .i64 r) w') (first | exact K.out) (fail) | fail
  go_wp2_with fail
  go_ret
  exact ⟨rfl, HW.out.2.trans ((Below.refl _ W).drew.mono HW.out.2.size)⟩
def wantU (U : List (Dg × Int)) (d : Dg) : List (Dg × Int) := dput U d (wantN U d + 1)
theorem nilU_eq0 (w : World) : (binOp .eql 92 (.map none) (.map none)).run Tryz.prog w = .ok (.bool true) w := by kernel_rfl
theorem nilM_eq0 (w : World) : (binOp .eql 91 (.map none) (.map none)).run Tryz.prog w = .ok (.bool true) w := by kernel_rfl
theorem nilU_eq (b : Nat) (w : World) : (binOp .eql 92 (.map (some b)) (.map none)).run Tryz.prog w = .ok (.bool false) w := by kernel_rfl
theorem nilM_eq (b : Nat) (w : World) : (binOp .eql 91 (.map (some b)) (.map none)).run Tryz.prog w = .ok (.bool false) w := by kernel_rfl
/-- What the last step of Want comes to. -/
theorem want_step {pb b : Nat} {P : List (Dg × (Int × Cl))} {U : List (Dg × Int)} {F : FP} {o o2 : Option Nat} {m : List (Dg × Nt)} {W : World} (hp : PrAt pb P U F o o2 m W) (hb : o2 = some b) (hl : U.length ≤ 100000) (d : Dg) :
    ∃ (v0 : Value) (st : Nat) (w1 : World), (Instr.mapEntry 92 (.map (some b)) (.agg (Bs d.s).toArray)).run Tryz.prog W = .ok (.tuple #[v0, .int .i64 st]) w1 ∧ W.grownBy w1 (some b) ∧ (∀ k, k ≠ b → w1.heap[k]? = W.heap[k]?) ∧
      (Instr.lookup 92 (.map (some b)) (.agg (Bs d.s).toArray) false).run Tryz.prog W = .ok (.int .i64 (wantN U d)) W ∧
      (Instr.lookup 92 (.map (some b)) (.agg (Bs d.s).toArray) false).run Tryz.prog w1 = .ok (.int .i64 (wantN U d)) w1 ∧
      ∀ v : Int, ∃ w2, (Instr.entryStore 92 (.map (some b)) (.int .i64 st) (.int .i64 v)).run Tryz.prog w1 = .ok () w2 ∧ (∀ k, k ≠ b → w2.heap[k]? = W.heap[k]?) ∧ (prM pb P (dput U d v)).to F W w2 := by
  have hm : MapD codI b U W := by
    rcases hp.mu with ⟨e, -⟩ | ⟨b', e, h⟩
    · rw [e] at hb; cases hb
    · rw [e] at hb; cases hb; exact h
  obtain ⟨v0, st, w1, e1, e2, e3, e4, e5⟩ := hm.entry Tryz.underlying92 zIn (by unfold maxLen; omega) d
  refine ⟨v0, st, w1, e1, e2, fun k hk => ?_, hm.look Tryz.underlying92 (zIn W) d, e4, fun v => ?_⟩
  · by_cases hs : k < W.heap.size
    · exact e2.block k hs (fun q => by cases q; exact hk rfl)
    · rw [Array.getElem?_eq_none (by omega), Array.getElem?_eq_none (by omega)]
  · obtain ⟨w2, q1, q2, q3, q4⟩ := e5 v
    refine ⟨w2, q1, fun k hk => ?_, hp.setU hb q2 q3⟩
    by_cases hs : k < W.heap.size
    · exact q3.block k hs (fun q => by cases q; exact hk rfl)
    · rw [Array.getElem?_eq_none (by omega), Array.getElem?_eq_none (by omega)]
/-- The wanted map is made. -/
theorem PrAt.makeU {pb : Nat} {P : List (Dg × (Int × Cl))} {U : List (Dg × Int)} {F : FP} {o : Option Nat} {m : List (Dg × Nt)} {W : World} (hp : PrAt pb P U F o none m W) :
    U = [] ∧ PrAt pb P U (fun k => F k ∨ k = W.heap.size) o (some W.heap.size) m ((W.alloc (.map #[] 0)).setCell ⟨pb, 1, none⟩ (.map (some W.heap.size))) := by
  have hU : U = [] := by
    rcases hp.mu with ⟨-, e⟩ | ⟨b', e, h⟩
    · exact e
    · cases e
  subst hU
  obtain ⟨V, hV⟩ : ∃ V, V = (W.alloc (.map #[] 0)).setCell ⟨pb, 1, none⟩ (.map (some W.heap.size)) := ⟨_, rfl⟩
  rw [← hV]
  have hpl : pb < W.heap.size := hp.lt pb hp.own
  have hk : ∀ k, k ≠ pb → V.heap[k]? = (W.alloc (.map #[] 0)).heap[k]? := fun k hk => by rw [hV]; exact Below.heap_setCell _ _ _ k hk
  have hk2 : ∀ k, k ≠ pb → k < W.heap.size → V.heap[k]? = W.heap[k]? := fun k h1 h2 => (hk k h1).trans (Below.heap_alloc _ _ _ h2)
  have hVs : V.heap.size = W.heap.size + 1 := by rw [hV]; simp [World.setCell]
  have hnew : V.heap[W.heap.size]? = some (.map #[] 0) := (hk _ (by omega)).trans (World.alloc_heap_new _ _)
  have hpb : V.heap[pb]? = some (.cells #[.map o, .map (some W.heap.size)] 94 (0, 0)) := by
    rw [hV]
    exact setCell_at (l := [.map o, .map none]) ((Below.heap_alloc _ _ _ hpl).trans hp.blk)
  refine ⟨rfl, hpb, hp.mo.keep (fun b e => hk2 b (hp.pbNe.1 b e) (hp.mo.lt e)), .inr ⟨_, rfl, (MapD.made codI W).block (w' := V) (by rw [hnew, World.alloc_heap_new])⟩, hp.rel.keep (fun k hF h1 h2 => ⟨.inl hF, ?_⟩), fun b e => .inl (hp.fo b e), fun b e => by cases e; exact .inr rfl, fun b e q => ?_, .inl hp.own, fun k h => ?_⟩
  · by_cases e : k = pb
    · subst e
      obtain ⟨x, hx⟩ := h2
      rw [hp.c0] at hx; cases hx
    · exact hk2 k e h1
  · cases q
    have := hp.mo.lt e; omega
  · rcases h with h | h
    · have := hp.lt k h; omega
    · omega
set_option maxRecDepth 100000 in
set_option maxHeartbeats 2000000 in
theorem pre_Want {pb : Nat} {P : List (Dg × (Int × Cl))} {U : List (Dg × Int)} {F : FP} {w : World} (h : (prM pb P U).is F w) (hl : U.length ≤ 100000) (d : Dg) (h1 : 0 ≤ wantN U d) (h2 : wantN U d ≤ 1000000) : Calls Tryz.prog 20 #[.pointer (some ⟨pb, 0, none⟩), .agg (Bs d.s).toArray] w fun e w' => e = .returned (.tuple #[]) ∧ (prM pb P (wantU U d)).to F w w' := by
  obtain ⟨o, o2, m, hp⟩ := h
  obtain ⟨W, hW⟩ : ∃ W, W = w.alloc (.cells (Bs d.s).toArray 41) := ⟨_, rfl⟩
  have hb : Below w.heap.size w W := by rw [hW]; exact (Below.refl _ w).alloc (Nat.le_refl _) _
  have hpW : PrAt pb P U F o o2 m W := hp.keep hb.size (fun k hk => hb.block k (hp.lt k hk))
  have hbox : W.rangeAt w.heap.size 0 (Bs d.s) := by rw [hW]; exact hashBox
  have hhs : w.heap.size < W.heap.size := by rw [hW]; simp
  have hpl : pb < w.heap.size := hp.lt pb hp.own
  have hu := Tryz.underlying41
  have hsz := infoHD d
  obtain ⟨n, hn⟩ : ∃ n, n = wantN U d := ⟨_, rfl⟩
  have wr : IntKind.i64.wrap (n + 1) = n + 1 := IntWalk.i64_in _ (by omega)
  have c1 := hpW.c1
  cases o2 with
  | none =>
    obtain ⟨hU, hpV⟩ := hpW.makeU
    subst hU
    obtain ⟨b, hbe⟩ : ∃ b, b = W.heap.size := ⟨_, rfl⟩
    obtain ⟨V, hV⟩ : ∃ V, V = (W.alloc (.map #[] 0)).setCell ⟨pb, 1, none⟩ (.map (some b)) := ⟨_, rfl⟩
    rw [← hbe, ← hV] at hpV
    have hbh : b ≠ w.heap.size := by omega
    have hkV : ∀ k, k ≠ pb → k < W.heap.size → V.heap[k]? = W.heap[k]? := fun k q1 q2 => by
      rw [hV, Below.heap_setCell _ _ _ k q1]; exact Below.heap_alloc _ _ _ q2
    have hbox : V.rangeAt w.heap.size 0 (Bs d.s) := rangeAt_block hbox (hkV _ (by omega) hhs)
    have hto : ∀ w' U', (prM pb P U').to (fun k => F k ∨ k = b) V w' → (prM pb P U').to F w w' := fun w' U' ⟨F', a1, a2, a3⟩ => by
      have hs0 : W.heap.size ≤ V.heap.size := by rw [hV]; simp [World.setCell]
      refine ⟨F', a1, fun k hk => ?_, ⟨⟨?_, ?_, ?_, ?_⟩, fun k hk p1 p2 => ?_⟩⟩
      · rcases a2 k hk with (e | e) | e
        · exact .inl e
        · exact .inr (by omega)
        · exact .inr (by omega)
      · rw [a3.grow.os, hV]; exact hb.os
      · rw [a3.grow.tape, hV]; exact hb.tape
      · rw [a3.grow.output, hV]; exact hb.output
      · have := a3.grow.size; have := hb.size; omega
      · rw [a3.block k (by omega) (fun q => q.elim p1 (fun e => by omega)) (fun q => q), hkV k (fun e => p1 (by rw [e]; exact hp.own)) (by omega)]
        exact hb.block k hk
    have fz : (W.alloc (.map #[] 0)).frozen? ⟨pb, 1, none⟩ = false := by
      have q : (W.alloc (.map #[] 0)).heap[pb]? = W.heap[pb]? := Below.heap_alloc _ _ _ (by omega)
      simp [World.frozen?, q, hpW.blk]
    have cz : (W.alloc (.map #[] 0)).cell? ⟨pb, 1, none⟩ = some (.map none) := (World.cell?_of_block (a := ⟨pb, 1, none⟩) (Below.heap_alloc W _ _ (by show pb < W.heap.size; omega))).trans c1
    have hmm := @run_makeMap Tryz.prog
    have nb := nilU_eq0 W
    obtain ⟨v0, st, w1, e1, e2, e3, e4, e5, e6⟩ := want_step (W := V.drew) (hpV.keep (w' := V.drew) (Nat.le_refl _) (fun _ _ => rfl)) rfl hl d
    rw [← hn] at e4 e5
    obtain ⟨w2, q1, q3, q2⟩ := e6 (n + 1)
    have hbb : b ≠ pb := hpV.pbNe.2 b rfl
    have k1 : w1.cell? ⟨pb, 1, none⟩ = some (.map (some b)) := (World.cell?_of_block (a := ⟨pb, 1, none⟩) (e3 pb (Ne.symm hbb))).trans hpV.c1
    have k2 : w1.rangeAt w.heap.size 0 (Bs d.s) := rangeAt_block (w := V.drew) hbox (e3 _ (Ne.symm hbh))
    have k3 : w2.cell? ⟨pb, 1, none⟩ = some (.map (some b)) := (World.cell?_of_block (a := ⟨pb, 1, none⟩) (q3 pb (Ne.symm hbb))).trans hpV.c1
    have k4 : w2.rangeAt w.heap.size 0 (Bs d.s) := rangeAt_block (w := V.drew) hbox (q3 _ (Ne.symm hbh))
    have KA := Lib.hid (And.intro (show V.drew.cell? ⟨pb, 1, none⟩ = some (.map (some b)) from hpV.c1) (show V.drew.rangeAt w.heap.size 0 (Bs d.s) from hbox))
    have KB := Lib.hid (And.intro k1 k2)
    have KC := Lib.hid (And.intro k3 k4)
    have HQ := Lib.hid q2
    have HH := Lib.hid (And.intro hb hn)
    have HW := Lib.hid (And.intro hW (And.intro hbe hV))
    have HTO := Lib.hid hto
    clear hp hpW hpV hbox hhs hpl hn hb hW e2 e3 e6 hbb hbh k1 k2 k3 k4 q2 q3 hl hto hkV hbe hV
    go_enter Tryz.func20, Tryz.ntmps20
    go_upto_region 1 with fail
    rw [← HW.out.1]
    go_upto_region 4 with fail
    rw [← HW.out.2.1, ← HW.out.2.2]
    go_region_held3 (fun w' => w'.cell? ⟨pb, 1, none⟩ = some (.map (some b)) ∧ w'.rangeAt w.heap.size 0 (Bs d.s)) (first | exact KA.out | exact KB.out | exact KC.out) (fail)
    all_goals
      refine bodyPost_end (results_none rfl _ _ _) rfl ⟨rfl, ?_⟩
      unfold wantU
      rw [← HH.out.2]
      exact HTO.out _ _ (Mem.to_later (Below.refl _ V).drew HQ.out)
  | some b =>
    have hbh : b ≠ w.heap.size := by have := hp.mu.lt rfl; omega
    have nb := nilU_eq b W
    obtain ⟨v0, st, w1, e1, e2, e3, e4, e5, e6⟩ := want_step (W := W.drew) (hpW.keep (w' := W.drew) (Nat.le_refl _) (fun _ _ => rfl)) rfl hl d
    rw [← hn] at e4 e5
    obtain ⟨w2, q1, q3, q2⟩ := e6 (n + 1)
    have hbb : b ≠ pb := hpW.pbNe.2 b rfl
    have k1 : w1.cell? ⟨pb, 1, none⟩ = some (.map (some b)) := (World.cell?_of_block (a := ⟨pb, 1, none⟩) (e3 pb (Ne.symm hbb))).trans hpW.c1
    have k2 : w1.rangeAt w.heap.size 0 (Bs d.s) := rangeAt_block (w := W.drew) hbox (e3 _ (Ne.symm hbh))
    have k3 : w2.cell? ⟨pb, 1, none⟩ = some (.map (some b)) := (World.cell?_of_block (a := ⟨pb, 1, none⟩) (q3 pb (Ne.symm hbb))).trans hpW.c1
    have k4 : w2.rangeAt w.heap.size 0 (Bs d.s) := rangeAt_block (w := W.drew) hbox (q3 _ (Ne.symm hbh))
    have KA := Lib.hid (And.intro (show W.drew.cell? ⟨pb, 1, none⟩ = some (.map (some b)) from hpW.c1) (show W.drew.rangeAt w.heap.size 0 (Bs d.s) from hbox))
    have KB := Lib.hid (And.intro k1 k2)
    have KC := Lib.hid (And.intro k3 k4)
    have HQ := Lib.hid q2
    have HH := Lib.hid (And.intro hb hn)
    have HW := Lib.hid hW
    clear hp hpW hbox hhs hpl hn hb hW e2 e3 e6 hbb hbh k1 k2 k3 k4 q2 q3 hl
    go_enter Tryz.func20, Tryz.ntmps20
    go_upto_region 1 with fail
    rw [← HW.out]
    go_upto_region 4 with fail
    go_region_held3 (fun w' => w'.cell? ⟨pb, 1, none⟩ = some (.map (some b)) ∧ w'.rangeAt w.heap.size 0 (Bs d.s)) (first | exact KA.out | exact KB.out | exact KC.out) (fail)
    all_goals
      refine bodyPost_end (results_none rfl _ _ _) rfl ⟨rfl, ?_⟩
      unfold wantU
      rw [← HH.out.2]
      exact Mem.to_later HH.out.1 (Mem.to_later (Below.refl _ W).drew HQ.out)
def unwantU (U : List (Dg × Int)) (d : Dg) : List (Dg × Int) := if wantN U d = 0 then U else if wantN U d = 1 then ddel U d else dput U d (wantN U d - 1)
set_option maxRecDepth 100000 in
set_option maxHeartbeats 2000000 in
theorem pre_Unwant {pb : Nat} {P : List (Dg × (Int × Cl))} {U : List (Dg × Int)} {F : FP} {w : World} (h : (prM pb P U).is F w) (hl : U.length ≤ 100000) (d : Dg) (h1 : 0 ≤ wantN U d) (h2 : wantN U d ≤ 1000000) : Calls Tryz.prog 22 #[.pointer (some ⟨pb, 0, none⟩), .agg (Bs d.s).toArray] w fun e w' => e = .returned (.tuple #[]) ∧ (prM pb P (unwantU U d)).to F w w' := by
  have h0 := h
  obtain ⟨W0, hW0⟩ : ∃ W, W = w.alloc (.cells (Bs d.s).toArray 41) := ⟨_, rfl⟩
  have hb0 : Below w.heap.size w W0 := by rw [hW0]; exact (Below.refl _ w).alloc (Nat.le_refl _) _
  have hbox0 : W0.rangeAt w.heap.size 0 (Bs d.s) := by rw [hW0]; exact hashBox
  have hhs : w.heap.size < W0.heap.size := by rw [hW0]; simp
  have hwt := pre_Wanted (Mem.below h hb0) d
  obtain ⟨n, hn⟩ : ∃ n, n = wantN U d := ⟨_, rfl⟩
  rw [← hn] at hwt
  have hu := Tryz.underlying41
  have hsz := infoHD d
  have HWT := Lib.hid hwt
  have HB0 := Lib.hid (And.intro hb0 (And.intro hbox0 (And.intro hhs hW0)))
  have c0 := hbox0
  have hlh : (Instr.loadAt 41 (.pointer (some ⟨w.heap.size, 0, none⟩))).run Tryz.prog W0 = .ok (.agg (Bs d.s).toArray) W0 := run_loadR (r := hshR) (t := d) hbox0
  have hex : n = 0 ∨ n = 1 ∨ (2 ≤ n ∧ n ≤ 1000000) := by omega
  clear hwt hb0 hbox0 hhs hW0
  rcases hex with rfl | rfl | hn2
  · have HN := Lib.hid hn
    have HH := Lib.hid h
    clear h h0 hl h1 h2 hn
    go_enter Tryz.func22, Tryz.ntmps22
    go_upto_region 1 with fail
    rw [← HB0.out.2.2.2]
    go_wp2_with (first
      | (refine wpl_loadR (r := hshR) (t := d) _ rfl rfl rfl c0 ?_)
      | (go_at_call 26; refine HWT.out.mono ?_; rintro e w1 ⟨rfl, hb⟩; have H1 := Lib.hid hb; clear hb)
      | fail)
    refine bodyPost_end (results_none rfl _ _ _) rfl ⟨rfl, ?_⟩
    unfold unwantU
    rw [← HN.out, if_pos rfl]
    exact Mem.to_below HH.out (HB0.out.1.trans (H1.out.mono HB0.out.1.size))
  · have HN := Lib.hid hn
    have HH := Lib.hid h
    clear h h0 hl h1 h2 hn
    go_enter Tryz.func22, Tryz.ntmps22
    go_upto_region 1 with fail
    rw [← HB0.out.2.2.2]
    go_upto_region 5 with (first
      | (refine wpl_loadR (r := hshR) (t := d) _ rfl rfl rfl c0 ?_)
      | (go_at_call 26; refine HWT.out.mono ?_; rintro e w1 ⟨rfl, hb⟩; have H1 := Lib.hid hb; clear hb)
      | fail)
    have hbw : Below w.heap.size w w1 := HB0.out.1.trans (H1.out.mono HB0.out.1.size)
    obtain ⟨o, o2, m, hp⟩ := Mem.below HH.out hbw
    obtain ⟨b, rfl⟩ : ∃ b, o2 = some b := by
      rcases hp.mu with ⟨-, e⟩ | ⟨b, e, -⟩
      · have := HN.out; rw [e] at this; simp [wantN, dget] at this
      · exact ⟨b, e⟩
    have hm : MapD codI b U w1.drew := by
      rcases hp.mu with ⟨e, -⟩ | ⟨b', e, q⟩
      · cases e
      · cases e; exact q.block (w' := w1.drew) rfl
    have hbox : w1.drew.rangeAt w.heap.size 0 (Bs d.s) := rangeAt_block (w := W0) HB0.out.2.1 (H1.out.block _ HB0.out.2.2.1)
    obtain ⟨w2, e1, e2, e3, e4⟩ := hm.drop Tryz.underlying92 d 0
    have e1 : (Builtin.delete_ #[92, 41] 0 #[.map (some b), .agg (Bs d.s).toArray]).run Tryz.prog w1.drew = .ok (.tuple #[]) w2 := e1
    have hbb : b ≠ pb := hp.pbNe.2 b rfl
    have hbh : b ≠ w.heap.size := by
      intro q
      obtain ⟨es, cl, hh⟩ := hp.mu.notCells rfl
      exact hash_noMap hbox (by rw [← q]; exact hh)
    have k1 : w1.drew.cell? ⟨pb, 1, none⟩ = some (.map (some b)) := hp.c1
    have KA := Lib.hid (And.intro k1 hbox)
    have KC := Lib.hid (And.intro ((World.cell?_of_block (a := ⟨pb, 1, none⟩) (e3.block pb (hp.lt pb hp.own) (fun q => by cases q; exact hbb rfl))).trans k1) (rangeAt_block hbox (e3.block _ (by have := hbw.size; have := HB0.out.2.2.1; have := H1.out.size; show w.heap.size < w1.heap.size; omega) (fun q => by cases q; exact hbh rfl))))
    have HQ := Lib.hid (hp.setU (w' := w2) rfl e2 ⟨e3.os, e3.tape, e3.output, e3.size, e3.block⟩)
    have HBW := Lib.hid hbw
    clear hp hm hbox e2 e3 e4 hbb hbh k1 hbw
    go_region_held3 (fun w' => w'.cell? ⟨pb, 1, none⟩ = some (.map (some b)) ∧ w'.rangeAt w.heap.size 0 (Bs d.s)) (first | exact KA.out | exact KC.out) (fail)
    all_goals
      try go_wp2_with fail
      refine bodyPost_end (results_none rfl _ _ _) rfl ⟨rfl, ?_⟩
      unfold unwantU
      rw [← HN.out, if_neg (by decide), if_pos rfl]
      exact Mem.to_later HBW.out HQ.out
  · have HN := Lib.hid hn
    have HH := Lib.hid h
    have wr : IntKind.i64.wrap (n - 1) = n - 1 := IntWalk.i64_in _ (by omega)
    have g0 : (n == 0) = false := by rw [beq_eq_false_iff_ne]; omega
    have g1 : (n == 1) = false := by rw [beq_eq_false_iff_ne]; omega
    clear h h0 h1 h2 hn
    go_enter Tryz.func22, Tryz.ntmps22
    go_upto_region 1 with fail
    rw [← HB0.out.2.2.2]
    go_upto_region 2 with (first
      | (refine wpl_loadR (r := hshR) (t := d) _ rfl rfl rfl c0 ?_)
      | (go_at_call 26; refine HWT.out.mono ?_; rintro e wq ⟨rfl, hb⟩; have H1 := Lib.hid hb; clear hb)
      | fail)
    have hbw : Below w.heap.size w wq := HB0.out.1.trans (H1.out.mono HB0.out.1.size)
    obtain ⟨o, o2, m, hpW⟩ := Mem.below HH.out hbw
    have hn := HN.out
    obtain ⟨b, rfl⟩ : ∃ b, o2 = some b := by
      rcases hpW.mu with ⟨-, e⟩ | ⟨b, e, -⟩
      · rw [e] at hn; simp [wantN, dget] at hn; omega
      · exact ⟨b, e⟩
    have hbox : wq.rangeAt w.heap.size 0 (Bs d.s) := rangeAt_block (w := W0) HB0.out.2.1 (H1.out.block _ HB0.out.2.2.1)
    have hbh : b ≠ w.heap.size := by
      intro q
      obtain ⟨es, cl, hh⟩ := hpW.mu.notCells rfl
      exact hash_noMap hbox (by rw [← q]; exact hh)
    have hb := hbw
    obtain ⟨v0, st, w1, e1, e2, e3, e4, e5, e6⟩ := want_step (W := wq.drew) (hpW.keep (w' := wq.drew) (Nat.le_refl _) (fun _ _ => rfl)) rfl hl d
    rw [← hn] at e4 e5
    obtain ⟨w2, q1, q3, q2⟩ := e6 (n - 1)
    have hbb : b ≠ pb := hpW.pbNe.2 b rfl
    have k1 : w1.cell? ⟨pb, 1, none⟩ = some (.map (some b)) := (World.cell?_of_block (a := ⟨pb, 1, none⟩) (e3 pb (Ne.symm hbb))).trans hpW.c1
    have k2 : w1.rangeAt w.heap.size 0 (Bs d.s) := rangeAt_block (w := wq.drew) hbox (e3 _ (Ne.symm hbh))
    have k3 : w2.cell? ⟨pb, 1, none⟩ = some (.map (some b)) := (World.cell?_of_block (a := ⟨pb, 1, none⟩) (q3 pb (Ne.symm hbb))).trans hpW.c1
    have k4 : w2.rangeAt w.heap.size 0 (Bs d.s) := rangeAt_block (w := wq.drew) hbox (q3 _ (Ne.symm hbh))
    have KA := Lib.hid (And.intro (show wq.drew.cell? ⟨pb, 1, none⟩ = some (.map (some b)) from hpW.c1) (show wq.drew.rangeAt w.heap.size 0 (Bs d.s) from hbox))
    have KB := Lib.hid (And.intro k1 k2)
    have KC := Lib.hid (And.intro k3 k4)
    have HQ := Lib.hid q2
    have HH := Lib.hid (And.intro hb hn)
    clear hpW hbox hn hb hbw e2 e3 e6 hbb hbh k1 k2 k3 k4 q2 q3 hl
    go_region_held3 (fun w' => w'.cell? ⟨pb, 1, none⟩ = some (.map (some b)) ∧ w'.rangeAt w.heap.size 0 (Bs d.s)) (first | exact KA.out | exact KB.out | exact KC.out) (fail)
    all_goals
      try go_wp2_with fail
      refine bodyPost_end (results_none rfl _ _ _) rfl ⟨rfl, ?_⟩
      unfold unwantU
      rw [← HH.out.2, if_neg (by omega), if_neg (by omega)]
      exact Mem.to_later HH.out.1 (Mem.to_later (Below.refl _ wq).drew HQ.out)
end Go.Proofs.YtcfcfijmfgnpfaaGreatDoor
end

section
namespace Go.Proofs.YtcfcfijmfgnpfaaGreatDoor
open Go.RowKit Go.Maps
set_option linter.unusedVariables false
set_option linter.unusedSimpArgs false

theorem dec_ok (v : Value) (c : Cl) (w : World) (hr : RdB w v (layT c)) (hok : okC 3 c = true) :
    Calls Tryz.prog 52 #[v] w fun x w' => ∃ y1 y2 y3 y4 y5 y6, x = .returned (.tuple #[.agg #[.int .i64 y1, .int .i64 y2, .int .i64 y3, .slice y4 y5 y6], .int .i64 0]) ∧ RdZ (fun b => b < w.heap.size) w' 4 (.agg (c4 (y1, y2, y3, y4, y5, y6)).toArray) c ∧ Below w.heap.size w w' :=
  (code_DecodeCallOk v (layT c) c w hr ⟨layT_lt c, by have := okC3_len hok; omega⟩ hok rfl).mono fun x w' ⟨⟨y1, y2, y3, y4, y5, y6⟩, h⟩ => ⟨y1, y2, y3, y4, y5, y6, h⟩
/-- What a look at the notes finds. -/
theorem PrAt.note_look {pb : Nat} {P : List (Dg × (Int × Cl))} {U : List (Dg × Int)} {F : FP} {o o2 : Option Nat} {m : List (Dg × Nt)} {w : World} (h : PrAt pb P U F o o2 m w) (d : Dg) :
    ∃ x : Nt, (∀ w', (∀ b, o = some b → w'.heap[b]? = w.heap[b]?) → (Instr.lookup 91 (.map o) (.agg (Bs d.s).toArray) true).run Tryz.prog w' = .ok (.tuple #[.agg #[.int .i64 x.who, x.v], .bool (dget P d).isSome]) w') ∧ (∀ q, dget P d = some q → dget m d = some x ∧ NtOk F w x q) ∧ (dget P d = none → x = nt0) := by
  have hl := fun w' (hk : ∀ b, o = some b → w'.heap[b]? = w.heap[b]?) => (h.mo.keep (w' := w') hk).look_ok Tryz.underlying91 zNt d
  have hs : (dget m d).isSome = (dget P d).isSome := by
    cases e : dget m d with
    | none => rw [((h.rel.2 d).1.1 e)]; rfl
    | some x =>
      cases e2 : dget P d with
      | none => rw [(h.rel.2 d).1.2 e2] at e; cases e
      | some q => rfl
  refine ⟨(dget m d).getD nt0, fun w' hk => by rw [← hs]; exact hl w' hk, fun q hq => ?_, fun hq => by rw [(h.rel.2 d).1.2 hq]; rfl⟩
  cases e : dget m d with
  | none => rw [(h.rel.2 d).1.1 e] at hq; cases hq
  | some x => exact ⟨rfl, (h.rel.2 d).2 x q e hq⟩
theorem wp_meetF {P : Program} {c : Code} {K : Act → World → Prop} {Q : Exit → Act → World → Prop} {a fr : Act} {w : World} {S : World → Prop} (h : c.wp P (Exit.then (fun a w => a = fr ∧ S w) (fun _ _ _ => False)) a w) (hK : ∀ w, S w → K fr w) : c.wp P (Exit.then K Q) a w :=
  (wpIn_wide (n := 0)).1 (region_meet h (fun a w ⟨e, hs⟩ => by rw [e]; exact hK w hs))
/-- The world behind a look at the notes: what was found in a place of its own. -/
def Found (W : World) (x : Nt) (wc : World) : Prop := wc.heap[W.heap.size]? = some (.cells #[.int .i64 x.who, x.v] 101 (0, 0)) ∧ Below W.heap.size W wc
theorem found_of (W : World) (x : Nt) : Found W x (W.alloc (.cells #[.int .i64 x.who, x.v] 101)).drew :=
  ⟨World.alloc_heap_new W _, ((Below.refl _ W).alloc (Nat.le_refl _) _).drew⟩
set_option maxRecDepth 100000 in
set_option maxHeartbeats 2000000 in
theorem pre_Get {pb : Nat} {P : List (Dg × (Int × Cl))} {U : List (Dg × Int)} {F : FP} {w : World} (h : (prM pb P U).is F w) (d : Dg) : Calls Tryz.prog 24 #[.pointer (some ⟨pb, 0, none⟩), .agg (Bs d.s).toArray] w fun e w' =>
    ((dget P d = none ∧ e = .returned (.tuple #[.agg zero4, .bool false])) ∨ ∃ q y, dget P d = some q ∧ e = .returned (.tuple #[.agg (c4 y).toArray, .bool true]) ∧ RdZ (fun b => b < w.heap.size) w' 4 (.agg (c4 y).toArray) q.2) ∧ Below w.heap.size w w' := by
  obtain ⟨o, o2, m, hp⟩ := h
  obtain ⟨hb, hhb⟩ : ∃ b, b = w.heap.size := ⟨_, rfl⟩
  obtain ⟨cb, hcb⟩ : ∃ b, b = w.heap.size + 1 := ⟨_, rfl⟩
  obtain ⟨W, hW⟩ : ∃ W, W = (w.alloc (.cells (Bs d.s).toArray 41)).alloc (.cells zero4 45) := ⟨_, rfl⟩
  have hB : Below w.heap.size w W := by rw [hW]; exact ((Below.refl _ w).alloc (Nat.le_refl _) _).alloc (by simp) _
  have hpW : PrAt pb P U F o o2 m W := hp.keep hB.size (fun k hk => hB.block k (hp.lt k hk))
  have hbox : W.rangeAt hb 0 (Bs d.s) := by rw [hW, hhb]; exact rangeAt_block hashBox (Below.heap_alloc _ _ _ (by simp))
  have hrs : W.heap[cb]? = some (.cells zero4 45 (0, 0)) := by rw [hW, hcb]; have q := World.alloc_heap_new (w.alloc (.cells (Bs d.s).toArray 41)) (.cells zero4 45); rwa [World.size_alloc] at q
  have hsz1 : W.heap.size = cb + 1 := by rw [hW, hcb]; simp
  obtain ⟨x, hlk, hx1, hx2⟩ := hpW.note_look d
  obtain ⟨bo, hbo⟩ : ∃ b, b = (dget P d).isSome := ⟨_, rfl⟩
  obtain ⟨xw, hxw⟩ : ∃ b, b = x.who := ⟨_, rfl⟩
  obtain ⟨ao, xn, xc, hxv⟩ : ∃ ao n c, x.v = .slice ao n c := ⟨_, _, _, rfl⟩
  rw [← hbo, ← hxw, hxv] at hlk
  have hkeep : ∀ V : World, (∀ k, k < W.heap.size → V.heap[k]? = W.heap[k]?) → V.cell? ⟨pb, 0, none⟩ = some (.map o) ∧ V.rangeAt hb 0 (Bs d.s) ∧ (Instr.lookup 91 (.map o) (.agg (Bs d.s).toArray) true).run Tryz.prog V = .ok (.tuple #[.agg #[.int .i64 xw, .slice ao xn xc], .bool bo]) V := fun V hV =>
    ⟨(World.cell?_of_block (a := ⟨pb, 0, none⟩) (hV pb (hpW.lt pb hpW.own))).trans hpW.c0, rangeAt_block hbox (hV hb (by omega)), hlk V (fun b e => hV b (hpW.mo.lt e))⟩
  have hfin : ∀ wc, Found W x wc → ∀ q, dget P d = some q → RdB wc x.v (layT q.2) ∧ okC 3 q.2 = true := fun wc hf q hq => by
    obtain ⟨-, hno⟩ := hx1 q hq
    obtain ⟨g, h1, h2, h3, h4, h5⟩ := hno.cells
    exact ⟨h5 wc (hf.2.block g h3), hno.ok⟩
  have hfo := found_of W x
  rw [← hxw, hxv] at hfo
  have HFO := Lib.hid hfo
  have HK := Lib.hid hkeep
  have hu := Tryz.underlying41
  have hsz := infoHD d
  have HW := Lib.hid (And.intro hW (And.intro hhb (And.intro hcb hB)))
  have HRS := Lib.hid (And.intro hrs hsz1)
  have HF := Lib.hid hfin
  have HX := Lib.hid (And.intro hxw (And.intro hxv hbo))
  clear hW hhb hcb hB hpW hbox hrs hsz1 hlk hx1 hx2 hkeep hp hfin hxw hxv hbo hfo
  go_enter Tryz.func24, Tryz.ntmps24
  go_upto_region 1 with fail
  rw [← HW.out.1, ← HW.out.2.2.1, ← HW.out.2.1]
  go_upto_region 3 with fail
  apply wp_meetF (S := fun wc => Found W x wc)
  case h =>
    go_region_held3 (fun w' => w'.cell? ⟨pb, 0, none⟩ = some (.map o) ∧ w'.rangeAt hb 0 (Bs d.s) ∧ (Instr.lookup 91 (.map o) (.agg (Bs d.s).toArray) true).run Tryz.prog w' = .ok (.tuple #[.agg #[.int .i64 xw, .slice ao xn xc], .bool bo]) w') (first | exact HK.out _ (fun k hk => rfl) | exact HK.out _ (fun k hk => Below.heap_alloc _ _ _ hk)) (fail)
    all_goals exact ⟨rfl, HFO.out⟩
  intro wc hfc
  have hcs : wc.heap[cb]? = some (.cells zero4 45 (0, 0)) := (hfc.2.block cb (by have := HRS.out.2; omega)).trans HRS.out.1
  have hbw : Below w.heap.size w wc := HW.out.2.2.2.trans (hfc.2.mono HW.out.2.2.2.size)
  obtain ⟨nb, hnb⟩ : ∃ b, b = W.heap.size := ⟨_, rfl⟩
  have hnt : wc.heap[nb]? = some (.cells #[.int .i64 xw, .slice ao xn xc] 101 (0, 0)) := by rw [hnb, HX.out.1, ← HX.out.2.1]; exact hfc.1
  have n1 : wc.cell? ⟨nb, 1, none⟩ = some (.slice ao xn xc) := by rw [World.cell?, hnt]; rfl
  rw [← hnb]
  have hr := HF.out wc hfc
  have HR := Lib.hid hr
  have HCS := Lib.hid (And.intro hcs (And.intro hbw hnb))
  have hbob : bo = true ∨ bo = false := by cases bo <;> simp
  have HB0 := HX.out.2.2
  clear hr hcs hbw hnt hfc hnb
  rcases hbob with rfl | rfl
  · obtain ⟨q, hq⟩ : ∃ q, dget P d = some q := Option.isSome_iff_exists.1 HB0.symm
    obtain ⟨r1, r2⟩ := HR.out q hq
    rw [HX.out.2.1] at r1
    have hd := dec_ok _ q.2 wc r1 r2
    have HD := Lib.hid hd
    have HQ := Lib.hid hq
    clear hd r1 r2 hq HB0
    go_wp2_with (first
      | (go_at_call 52; refine HD.out.mono ?_; rintro e w5 ⟨y1, y2, y3, y4, y5, y6, rfl, hz, hb5⟩; have hc5 := (hb5.block cb (Array.getElem?_eq_some_iff.1 HCS.out.1).1).trans HCS.out.1; have hc6 := (Below.heap_alloc w5 (.cells #[.int .i64 y1, .int .i64 y2, .int .i64 y3, .slice y4 y5 y6] 45) cb (Array.getElem?_eq_some_iff.1 hc5).1).trans hc5; have H5 := Lib.hid (And.intro hz (And.intro hb5 hc6)); clear hz hb5 hc5 hc6)
      | (refine wpl_storeD (vs := #[.int .i64 y1, .int .i64 y2, .int .i64 y3, .slice y4 y5 y6]) _ _ rfl rfl rfl rfl H5.out.2.2 rfl rfl (ones4D y1 y2 y3 _ _ _) ?_)
      | fail)
    have hfin := setRow_heap _ _ _ #[.int .i64 y1, .int .i64 y2, .int .i64 y3, .slice y4 y5 y6] _ _ H5.out.2.2
    have hlv := run_lvC (y := (y1, y2, y3, y4, y5, y6)) hfin
    have hcl : cb < wc.heap.size := (Array.getElem?_eq_some_iff.1 HCS.out.1).1
    have hcw : w.heap.size ≤ cb := by have := HW.out.2.2.1; omega
    have hws := HCS.out.2.1.size
    have h5s := H5.out.2.1.size
    have ho : ∀ k, k ≠ cb → k < w5.heap.size → ((w5.alloc (.cells #[.int .i64 y1, .int .i64 y2, .int .i64 y3, .slice y4 y5 y6] 45)).setRow cb #[.int .i64 y1, .int .i64 y2, .int .i64 y3, .slice y4 y5 y6]).heap[k]? = w5.heap[k]? := fun k h1 h2 => (setRow_other _ _ _ _ h1).trans (Below.heap_alloc _ _ _ h2)
    exact bodyPost_ret (v := .tuple #[.agg #[.int .i64 y1, .int .i64 y2, .int .i64 y3, .slice y4 y5 y6], .bool true]) (results_cellT Tryz.results24 rfl rfl hlv) rfl ⟨.inr ⟨q, (y1, y2, y3, y4, y5, y6), HQ.out, rfl, RdZ.keep (by simp) (fun x _ hx => by have h1 : x < w.heap.size := hx; show x < wc.heap.size; omega) (fun x h1 h2 => ho x (fun e => h2 (by show x < wc.heap.size; omega)) h1) H5.out.1⟩, setRow_below ((HCS.out.2.1.trans (H5.out.2.1.mono hws)).alloc (by omega) _) hcw⟩
  · have hq : dget P d = none := by cases e : dget P d with
      | none => rfl
      | some q => rw [e] at HB0; cases HB0
    have HQ := Lib.hid hq
    clear hq HB0
    go_wp2_with (first
      | (refine wpl_storeD (vs := zero4) _ _ rfl rfl rfl rfl HCS.out.1 rfl rfl (ones4D 0 0 0 none 0 0) ?_)
      | fail)
    have hfin := setRow_heap wc _ _ zero4 _ _ HCS.out.1
    have hlv := run_lvC (y := (0, 0, 0, none, 0, 0)) hfin
    exact bodyPost_ret (v := .tuple #[.agg zero4, .bool false]) (results_cellT Tryz.results24 rfl rfl hlv) rfl ⟨.inl ⟨HQ.out, rfl⟩, setRow_below HCS.out.2.1 (by have := HW.out.2.2.1; omega)⟩
end Go.Proofs.YtcfcfijmfgnpfaaGreatDoor
end

section
namespace Go.Proofs.YtcfcfijmfgnpfaaGreatDoor
open Go.RowKit Go.Maps
set_option linter.unusedVariables false
set_option linter.unusedSimpArgs false

def unnE (P : List (Dg × (Int × Cl))) (U : List (Dg × Int)) (who : Int) (d : Dg) : Int := match dget P d with
  | none => 4
  | some q => if q.1 ≠ who then 8 else if wantN U d > 0 then 9 else 0
def unnP (P : List (Dg × (Int × Cl))) (U : List (Dg × Int)) (who : Int) (d : Dg) : List (Dg × (Int × Cl)) := if unnE P U who d = 0 then ddel P d else P
def unnA (A : Acc) (P : List (Dg × (Int × Cl))) (U : List (Dg × Int)) (who : Int) (d : Dg) : Acc := if unnE P U who d = 0 then unheld A who 5 who else A
set_option maxRecDepth 100000 in
set_option maxHeartbeats 2000000 in
theorem pre_Unnote_none {pb g : Nat} {A : Acc} {M : Cls Int} {P : List (Dg × (Int × Cl))} {U : List (Dg × Int)} {F : FP} {w : World} (h : ((ldM g A M).star (prM pb P U)).is F w) (d : Dg) (who : Int) (hd : dget P d = none) : Calls Tryz.prog 18 #[.pointer (some ⟨pb, 0, none⟩), .pointer (some ⟨g, 0, none⟩), .int .i64 who, .agg (Bs d.s).toArray] w fun e w' => e = .returned (.int .i64 4) ∧ Below w.heap.size w w' := by
  obtain ⟨W, hW⟩ : ∃ W, W = w.alloc (.cells (Bs d.s).toArray 41) := ⟨_, rfl⟩
  obtain ⟨hb, hhb⟩ : ∃ b, b = w.heap.size := ⟨_, rfl⟩
  have hB : Below w.heap.size w W := by rw [hW]; exact (Below.refl _ w).alloc (Nat.le_refl _) _
  have hSW := Mem.below h hB
  have hpr := hSW
  obtain ⟨B0, hpW0, hBF, -⟩ := Mem.r hpr
  obtain ⟨o, o2, m, hpW⟩ := hpW0
  have hbox : W.rangeAt hb 0 (Bs d.s) := by rw [hW, hhb]; exact hashBox
  have hhl : hb < W.heap.size := by rw [hW, hhb]; simp
  obtain ⟨x, hlk, hx1, hx2⟩ := hpW.note_look d
  obtain ⟨bo, hbo⟩ : ∃ b, b = (dget P d).isSome := ⟨_, rfl⟩
  obtain ⟨xw, hxw⟩ : ∃ b, b = x.who := ⟨_, rfl⟩
  obtain ⟨ao, xn, xc, hxv⟩ : ∃ ao n c, x.v = .slice ao n c := ⟨_, _, _, rfl⟩
  rw [← hbo, ← hxw, hxv] at hlk
  have hkeep : ∀ V : World, (∀ k, k < W.heap.size → V.heap[k]? = W.heap[k]?) → V.cell? ⟨pb, 0, none⟩ = some (.map o) ∧ V.rangeAt hb 0 (Bs d.s) ∧ (Instr.lookup 91 (.map o) (.agg (Bs d.s).toArray) true).run Tryz.prog V = .ok (.tuple #[.agg #[.int .i64 xw, .slice ao xn xc], .bool bo]) V := fun V hV =>
    ⟨(World.cell?_of_block (a := ⟨pb, 0, none⟩) (hV pb (hpW.lt pb hpW.own))).trans hpW.c0, rangeAt_block hbox (hV hb hhl), hlk V (fun b e => hV b (hpW.mo.lt e))⟩
  have hfo := found_of W x
  rw [← hxw, hxv] at hfo
  have HFO := Lib.hid hfo
  have HK := Lib.hid hkeep
  have hu := Tryz.underlying41
  have hsz := infoHD d
  have HW := Lib.hid (And.intro hW (And.intro hhb (And.intro hB hhl)))
  have HX := Lib.hid (And.intro hxw (And.intro hxv hbo))
  have HS := Lib.hid hSW
  have HBX := Lib.hid hbox
  have hq0 : ∀ q, dget P d = some q → xw = q.1 := fun q hq => by rw [hxw]; exact (hx1 q hq).2.who
  have HQ0 := Lib.hid hq0
  clear hW hhb hB hpW hbox hlk hx1 hx2 hkeep hxw hxv hbo hfo hSW hpr hBF hhl hq0
  go_enter Tryz.func18, Tryz.ntmps18
  go_upto_region 1 with fail
  rw [← HW.out.1, ← HW.out.2.1]
  go_upto_region 3 with fail
  apply wp_meetF (S := fun wc => Found W x wc)
  case h =>
    go_region_held3 (fun w' => w'.cell? ⟨pb, 0, none⟩ = some (.map o) ∧ w'.rangeAt hb 0 (Bs d.s) ∧ (Instr.lookup 91 (.map o) (.agg (Bs d.s).toArray) true).run Tryz.prog w' = .ok (.tuple #[.agg #[.int .i64 xw, .slice ao xn xc], .bool bo]) w') (first | exact HK.out _ (fun k hk => rfl) | exact HK.out _ (fun k hk => Below.heap_alloc _ _ _ hk)) (fail)
    all_goals exact ⟨rfl, HFO.out⟩
  intro wc hfc
  have hbw : Below w.heap.size w wc := HW.out.2.2.1.trans (hfc.2.mono HW.out.2.2.1.size)
  obtain ⟨nb, hnb⟩ : ∃ b, b = W.heap.size := ⟨_, rfl⟩
  have hnt : wc.heap[nb]? = some (.cells #[.int .i64 xw, .slice ao xn xc] 101 (0, 0)) := by rw [hnb, HX.out.1, ← HX.out.2.1]; exact hfc.1
  have n0 : wc.cell? ⟨nb, 0, none⟩ = some (.int .i64 xw) := by rw [World.cell?, hnt]; rfl
  have hS := Mem.below HS.out hfc.2
  have hbx : wc.rangeAt hb 0 (Bs d.s) := rangeAt_block HBX.out (hfc.2.block hb HW.out.2.2.2)
  rw [← hnb]
  have HC := Lib.hid (And.intro hbw (And.intro hS hbx))
  have BO := Lib.hid HX.out.2.2
  clear hbw hnt hfc hnb hS hbx
  obtain rfl : bo = false := by rw [BO.out, hd]; rfl
  clear BO hd h
  go_wp2_with fail
  exact bodyPost_ret (v := .int .i64 4) (by simp [results, Tryz.results18, go_sem]) rfl ⟨rfl, HC.out.1⟩
set_option maxRecDepth 100000 in
set_option maxHeartbeats 2000000 in
theorem pre_Unnote_other {pb g : Nat} {A : Acc} {M : Cls Int} {P : List (Dg × (Int × Cl))} {U : List (Dg × Int)} {F : FP} {w : World} (h : ((ldM g A M).star (prM pb P U)).is F w) (d : Dg) (who : Int) {q : Int × Cl} (hd : dget P d = some q) (hw : q.1 ≠ who) : Calls Tryz.prog 18 #[.pointer (some ⟨pb, 0, none⟩), .pointer (some ⟨g, 0, none⟩), .int .i64 who, .agg (Bs d.s).toArray] w fun e w' => e = .returned (.int .i64 8) ∧ Below w.heap.size w w' := by
  obtain ⟨W, hW⟩ : ∃ W, W = w.alloc (.cells (Bs d.s).toArray 41) := ⟨_, rfl⟩
  obtain ⟨hb, hhb⟩ : ∃ b, b = w.heap.size := ⟨_, rfl⟩
  have hB : Below w.heap.size w W := by rw [hW]; exact (Below.refl _ w).alloc (Nat.le_refl _) _
  have hSW := Mem.below h hB
  have hpr := hSW
  obtain ⟨B0, hpW0, hBF, -⟩ := Mem.r hpr
  obtain ⟨o, o2, m, hpW⟩ := hpW0
  have hbox : W.rangeAt hb 0 (Bs d.s) := by rw [hW, hhb]; exact hashBox
  have hhl : hb < W.heap.size := by rw [hW, hhb]; simp
  obtain ⟨x, hlk, hx1, hx2⟩ := hpW.note_look d
  obtain ⟨bo, hbo⟩ : ∃ b, b = (dget P d).isSome := ⟨_, rfl⟩
  obtain ⟨xw, hxw⟩ : ∃ b, b = x.who := ⟨_, rfl⟩
  obtain ⟨ao, xn, xc, hxv⟩ : ∃ ao n c, x.v = .slice ao n c := ⟨_, _, _, rfl⟩
  rw [← hbo, ← hxw, hxv] at hlk
  have hkeep : ∀ V : World, (∀ k, k < W.heap.size → V.heap[k]? = W.heap[k]?) → V.cell? ⟨pb, 0, none⟩ = some (.map o) ∧ V.rangeAt hb 0 (Bs d.s) ∧ (Instr.lookup 91 (.map o) (.agg (Bs d.s).toArray) true).run Tryz.prog V = .ok (.tuple #[.agg #[.int .i64 xw, .slice ao xn xc], .bool bo]) V := fun V hV =>
    ⟨(World.cell?_of_block (a := ⟨pb, 0, none⟩) (hV pb (hpW.lt pb hpW.own))).trans hpW.c0, rangeAt_block hbox (hV hb hhl), hlk V (fun b e => hV b (hpW.mo.lt e))⟩
  have hfo := found_of W x
  rw [← hxw, hxv] at hfo
  have HFO := Lib.hid hfo
  have HK := Lib.hid hkeep
  have hu := Tryz.underlying41
  have hsz := infoHD d
  have HW := Lib.hid (And.intro hW (And.intro hhb (And.intro hB hhl)))
  have HX := Lib.hid (And.intro hxw (And.intro hxv hbo))
  have HS := Lib.hid hSW
  have HBX := Lib.hid hbox
  have hq0 : ∀ q, dget P d = some q → xw = q.1 := fun q hq => by rw [hxw]; exact (hx1 q hq).2.who
  have HQ0 := Lib.hid hq0
  clear hW hhb hB hpW hbox hlk hx1 hx2 hkeep hxw hxv hbo hfo hSW hpr hBF hhl hq0
  go_enter Tryz.func18, Tryz.ntmps18
  go_upto_region 1 with fail
  rw [← HW.out.1, ← HW.out.2.1]
  go_upto_region 3 with fail
  apply wp_meetF (S := fun wc => Found W x wc)
  case h =>
    go_region_held3 (fun w' => w'.cell? ⟨pb, 0, none⟩ = some (.map o) ∧ w'.rangeAt hb 0 (Bs d.s) ∧ (Instr.lookup 91 (.map o) (.agg (Bs d.s).toArray) true).run Tryz.prog w' = .ok (.tuple #[.agg #[.int .i64 xw, .slice ao xn xc], .bool bo]) w') (first | exact HK.out _ (fun k hk => rfl) | exact HK.out _ (fun k hk => Below.heap_alloc _ _ _ hk)) (fail)
    all_goals exact ⟨rfl, HFO.out⟩
  intro wc hfc
  have hbw : Below w.heap.size w wc := HW.out.2.2.1.trans (hfc.2.mono HW.out.2.2.1.size)
  obtain ⟨nb, hnb⟩ : ∃ b, b = W.heap.size := ⟨_, rfl⟩
  have hnt : wc.heap[nb]? = some (.cells #[.int .i64 xw, .slice ao xn xc] 101 (0, 0)) := by rw [hnb, HX.out.1, ← HX.out.2.1]; exact hfc.1
  have n0 : wc.cell? ⟨nb, 0, none⟩ = some (.int .i64 xw) := by rw [World.cell?, hnt]; rfl
  have hS := Mem.below HS.out hfc.2
  have hbx : wc.rangeAt hb 0 (Bs d.s) := rangeAt_block HBX.out (hfc.2.block hb HW.out.2.2.2)
  rw [← hnb]
  have HC := Lib.hid (And.intro hbw (And.intro hS hbx))
  have BO := Lib.hid HX.out.2.2
  clear hbw hnt hfc hnb hS hbx
  obtain rfl : bo = true := by rw [BO.out, hd]; rfl
  clear BO
  have g1 : (xw != who) = true := by rw [HQ0.out q hd]; simpa using hw
  clear hd h hw
  go_wp2_with fail
  exact bodyPost_ret (v := .int .i64 8) (by simp [results, Tryz.results18, go_sem]) rfl ⟨rfl, HC.out.1⟩
set_option maxRecDepth 100000 in
set_option maxHeartbeats 2000000 in
theorem pre_Unnote_wanted {pb g : Nat} {A : Acc} {M : Cls Int} {P : List (Dg × (Int × Cl))} {U : List (Dg × Int)} {F : FP} {w : World} (h : ((ldM g A M).star (prM pb P U)).is F w) (d : Dg) (who : Int) {q : Int × Cl} (hd : dget P d = some q) (hw : q.1 = who) (hn : wantN U d > 0) : Calls Tryz.prog 18 #[.pointer (some ⟨pb, 0, none⟩), .pointer (some ⟨g, 0, none⟩), .int .i64 who, .agg (Bs d.s).toArray] w fun e w' => e = .returned (.int .i64 9) ∧ Below w.heap.size w w' := by
  obtain ⟨W, hW⟩ : ∃ W, W = w.alloc (.cells (Bs d.s).toArray 41) := ⟨_, rfl⟩
  obtain ⟨hb, hhb⟩ : ∃ b, b = w.heap.size := ⟨_, rfl⟩
  have hB : Below w.heap.size w W := by rw [hW]; exact (Below.refl _ w).alloc (Nat.le_refl _) _
  have hSW := Mem.below h hB
  have hpr := hSW
  obtain ⟨B0, hpW0, hBF, -⟩ := Mem.r hpr
  obtain ⟨o, o2, m, hpW⟩ := hpW0
  have hbox : W.rangeAt hb 0 (Bs d.s) := by rw [hW, hhb]; exact hashBox
  have hhl : hb < W.heap.size := by rw [hW, hhb]; simp
  obtain ⟨x, hlk, hx1, hx2⟩ := hpW.note_look d
  obtain ⟨bo, hbo⟩ : ∃ b, b = (dget P d).isSome := ⟨_, rfl⟩
  obtain ⟨xw, hxw⟩ : ∃ b, b = x.who := ⟨_, rfl⟩
  obtain ⟨ao, xn, xc, hxv⟩ : ∃ ao n c, x.v = .slice ao n c := ⟨_, _, _, rfl⟩
  rw [← hbo, ← hxw, hxv] at hlk
  have hkeep : ∀ V : World, (∀ k, k < W.heap.size → V.heap[k]? = W.heap[k]?) → V.cell? ⟨pb, 0, none⟩ = some (.map o) ∧ V.rangeAt hb 0 (Bs d.s) ∧ (Instr.lookup 91 (.map o) (.agg (Bs d.s).toArray) true).run Tryz.prog V = .ok (.tuple #[.agg #[.int .i64 xw, .slice ao xn xc], .bool bo]) V := fun V hV =>
    ⟨(World.cell?_of_block (a := ⟨pb, 0, none⟩) (hV pb (hpW.lt pb hpW.own))).trans hpW.c0, rangeAt_block hbox (hV hb hhl), hlk V (fun b e => hV b (hpW.mo.lt e))⟩
  have hfo := found_of W x
  rw [← hxw, hxv] at hfo
  have HFO := Lib.hid hfo
  have HK := Lib.hid hkeep
  have hu := Tryz.underlying41
  have hsz := infoHD d
  have HW := Lib.hid (And.intro hW (And.intro hhb (And.intro hB hhl)))
  have HX := Lib.hid (And.intro hxw (And.intro hxv hbo))
  have HS := Lib.hid hSW
  have HBX := Lib.hid hbox
  have hq0 : ∀ q, dget P d = some q → xw = q.1 := fun q hq => by rw [hxw]; exact (hx1 q hq).2.who
  have HQ0 := Lib.hid hq0
  clear hW hhb hB hpW hbox hlk hx1 hx2 hkeep hxw hxv hbo hfo hSW hpr hBF hhl hq0
  go_enter Tryz.func18, Tryz.ntmps18
  go_upto_region 1 with fail
  rw [← HW.out.1, ← HW.out.2.1]
  go_upto_region 3 with fail
  apply wp_meetF (S := fun wc => Found W x wc)
  case h =>
    go_region_held3 (fun w' => w'.cell? ⟨pb, 0, none⟩ = some (.map o) ∧ w'.rangeAt hb 0 (Bs d.s) ∧ (Instr.lookup 91 (.map o) (.agg (Bs d.s).toArray) true).run Tryz.prog w' = .ok (.tuple #[.agg #[.int .i64 xw, .slice ao xn xc], .bool bo]) w') (first | exact HK.out _ (fun k hk => rfl) | exact HK.out _ (fun k hk => Below.heap_alloc _ _ _ hk)) (fail)
    all_goals exact ⟨rfl, HFO.out⟩
  intro wc hfc
  have hbw : Below w.heap.size w wc := HW.out.2.2.1.trans (hfc.2.mono HW.out.2.2.1.size)
  obtain ⟨nb, hnb⟩ : ∃ b, b = W.heap.size := ⟨_, rfl⟩
  have hnt : wc.heap[nb]? = some (.cells #[.int .i64 xw, .slice ao xn xc] 101 (0, 0)) := by rw [hnb, HX.out.1, ← HX.out.2.1]; exact hfc.1
  have n0 : wc.cell? ⟨nb, 0, none⟩ = some (.int .i64 xw) := by rw [World.cell?, hnt]; rfl
  have hS := Mem.below HS.out hfc.2
  have hbx : wc.rangeAt hb 0 (Bs d.s) := rangeAt_block HBX.out (hfc.2.block hb HW.out.2.2.2)
  rw [← hnb]
  have HC := Lib.hid (And.intro hbw (And.intro hS hbx))
  have BO := Lib.hid HX.out.2.2
  clear hbw hnt hfc hnb hS hbx
  obtain rfl : bo = true := by rw [BO.out, hd]; rfl
  clear BO
  have g1 : (xw != who) = false := by rw [HQ0.out q hd]; simpa using hw
  obtain ⟨B1, hp1, -, -⟩ := Mem.r HC.out.2.1
  have hwt := pre_Wanted hp1 d
  obtain ⟨n, hne⟩ : ∃ n, n = wantN U d := ⟨_, rfl⟩
  rw [← hne] at hwt hn
  have g2 : 0 < n := hn
  have HWT := Lib.hid hwt
  have hbx := HC.out.2.2
  have HBX2 := Lib.hid hbx
  clear hd h hw hwt hne hn hp1 hbx
  go_wp2_with (first
    | (refine wpl_loadR (r := hshR) (t := d) _ rfl rfl rfl HBX2.out ?_)
    | (go_at_call 26; refine HWT.out.mono ?_; rintro e wq ⟨rfl, hb⟩; have H1 := Lib.hid hb; clear hb)
    | fail)
  exact bodyPost_ret (v := .int .i64 9) (by simp [results, Tryz.results18, go_sem]) rfl ⟨rfl, HC.out.1.trans (H1.out.mono HC.out.1.size)⟩
set_option maxRecDepth 100000 in
set_option maxHeartbeats 2000000 in
theorem pre_Unnote_ok {pb g : Nat} {A : Acc} {M : Cls Int} {P : List (Dg × (Int × Cl))} {U : List (Dg × Int)} {F : FP} {w : World} (h : ((ldM g A M).star (prM pb P U)).is F w) (d : Dg) (who : Int) {q : Int × Cl} (hd : dget P d = some q) (hw : q.1 = who) (hn : wantN U d ≤ 0) : Calls Tryz.prog 18 #[.pointer (some ⟨pb, 0, none⟩), .pointer (some ⟨g, 0, none⟩), .int .i64 who, .agg (Bs d.s).toArray] w fun e w' => e = .returned (.int .i64 0) ∧ ((ldM g (unheld A who 5 who) M).star (prM pb (ddel P d) U)).to F w w' := by
  obtain ⟨W, hW⟩ : ∃ W, W = w.alloc (.cells (Bs d.s).toArray 41) := ⟨_, rfl⟩
  obtain ⟨hb, hhb⟩ : ∃ b, b = w.heap.size := ⟨_, rfl⟩
  have hB : Below w.heap.size w W := by rw [hW]; exact (Below.refl _ w).alloc (Nat.le_refl _) _
  have hSW := Mem.below h hB
  have hpr := hSW
  obtain ⟨B0, hpW0, hBF, -⟩ := Mem.r hpr
  obtain ⟨o, o2, m, hpW⟩ := hpW0
  have hbox : W.rangeAt hb 0 (Bs d.s) := by rw [hW, hhb]; exact hashBox
  have hhl : hb < W.heap.size := by rw [hW, hhb]; simp
  obtain ⟨x, hlk, hx1, hx2⟩ := hpW.note_look d
  obtain ⟨bo, hbo⟩ : ∃ b, b = (dget P d).isSome := ⟨_, rfl⟩
  obtain ⟨xw, hxw⟩ : ∃ b, b = x.who := ⟨_, rfl⟩
  obtain ⟨ao, xn, xc, hxv⟩ : ∃ ao n c, x.v = .slice ao n c := ⟨_, _, _, rfl⟩
  rw [← hbo, ← hxw, hxv] at hlk
  have hkeep : ∀ V : World, (∀ k, k < W.heap.size → V.heap[k]? = W.heap[k]?) → V.cell? ⟨pb, 0, none⟩ = some (.map o) ∧ V.rangeAt hb 0 (Bs d.s) ∧ (Instr.lookup 91 (.map o) (.agg (Bs d.s).toArray) true).run Tryz.prog V = .ok (.tuple #[.agg #[.int .i64 xw, .slice ao xn xc], .bool bo]) V := fun V hV =>
    ⟨(World.cell?_of_block (a := ⟨pb, 0, none⟩) (hV pb (hpW.lt pb hpW.own))).trans hpW.c0, rangeAt_block hbox (hV hb hhl), hlk V (fun b e => hV b (hpW.mo.lt e))⟩
  have hfo := found_of W x
  rw [← hxw, hxv] at hfo
  have HFO := Lib.hid hfo
  have HK := Lib.hid hkeep
  have hu := Tryz.underlying41
  have hsz := infoHD d
  have HW := Lib.hid (And.intro hW (And.intro hhb (And.intro hB hhl)))
  have HX := Lib.hid (And.intro hxw (And.intro hxv hbo))
  have HS := Lib.hid hSW
  have HBX := Lib.hid hbox
  have hq0 : ∀ q, dget P d = some q → xw = q.1 := fun q hq => by rw [hxw]; exact (hx1 q hq).2.who
  have HQ0 := Lib.hid hq0
  clear hW hhb hB hpW hbox hlk hx1 hx2 hkeep hxw hxv hbo hfo hSW hpr hBF hhl hq0
  go_enter Tryz.func18, Tryz.ntmps18
  go_upto_region 1 with fail
  rw [← HW.out.1, ← HW.out.2.1]
  go_upto_region 3 with fail
  apply wp_meetF (S := fun wc => Found W x wc)
  case h =>
    go_region_held3 (fun w' => w'.cell? ⟨pb, 0, none⟩ = some (.map o) ∧ w'.rangeAt hb 0 (Bs d.s) ∧ (Instr.lookup 91 (.map o) (.agg (Bs d.s).toArray) true).run Tryz.prog w' = .ok (.tuple #[.agg #[.int .i64 xw, .slice ao xn xc], .bool bo]) w') (first | exact HK.out _ (fun k hk => rfl) | exact HK.out _ (fun k hk => Below.heap_alloc _ _ _ hk)) (fail)
    all_goals exact ⟨rfl, HFO.out⟩
  intro wc hfc
  have hbw : Below w.heap.size w wc := HW.out.2.2.1.trans (hfc.2.mono HW.out.2.2.1.size)
  obtain ⟨nb, hnb⟩ : ∃ b, b = W.heap.size := ⟨_, rfl⟩
  have hnt : wc.heap[nb]? = some (.cells #[.int .i64 xw, .slice ao xn xc] 101 (0, 0)) := by rw [hnb, HX.out.1, ← HX.out.2.1]; exact hfc.1
  have n0 : wc.cell? ⟨nb, 0, none⟩ = some (.int .i64 xw) := by rw [World.cell?, hnt]; rfl
  have hS := Mem.below HS.out hfc.2
  have hbx : wc.rangeAt hb 0 (Bs d.s) := rangeAt_block HBX.out (hfc.2.block hb HW.out.2.2.2)
  rw [← hnb]
  have HC := Lib.hid (And.intro hbw (And.intro hS hbx))
  have BO := Lib.hid HX.out.2.2
  clear hbw hnt hfc hnb hS hbx
  obtain rfl : bo = true := by rw [BO.out, hd]; rfl
  clear BO
  have g1 : (xw != who) = false := by rw [HQ0.out q hd]; simpa using hw
  obtain ⟨B1, hp1, -, -⟩ := Mem.r HC.out.2.1
  have hwt := pre_Wanted hp1 d
  obtain ⟨n, hne⟩ : ∃ n, n = wantN U d := ⟨_, rfl⟩
  rw [← hne] at hwt hn
  have g2 : ¬ 0 < n := by omega
  have HWT := Lib.hid hwt
  have hbx := HC.out.2.2
  have HBX2 := Lib.hid hbx
  have hrel : ∀ wq, ((ldM g A M).star (prM pb P U)).is F wq → Calls Tryz.prog 50 #[.pointer (some ⟨g, 0, none⟩), .int .i64 who, .int .i64 5] wq fun e w' => (∃ r, e = .returned (.int .i64 r)) ∧ ((ldM g (unheld A who 5 who) M).star (prM pb P U)).to F wq w' := fun wq hq => by
    obtain ⟨L, hl, -, ht⟩ := Mem.l hq
    refine (ledger_ReleaseX (show LdX g 0 A M L wq from hl) who 5).mono ?_
    rintro e w' ⟨rfl, h2⟩
    exact ⟨⟨_, rfl⟩, ht (ldM g (unheld A who 5 who) M) w' h2⟩
  have HREL := Lib.hid hrel
  have hFh : ¬ F hb := fun e => by have := ((ldM g A M).star (prM pb P U)).lt h e; have := HW.out.2.1; omega
  have HFH := Lib.hid hFh
  have HD := Lib.hid hd
  clear hd h hw hwt hne hn hp1 hbx hrel hFh
  go_upto_region 11 with (first
    | (refine wpl_loadR (r := hshR) (t := d) _ rfl rfl rfl HBX2.out ?_)
    | (go_at_call 26; refine HWT.out.mono ?_; rintro e wq ⟨rfl, hb⟩; have H1 := Lib.hid hb; clear hb)
    | (go_at_call 50; refine (HREL.out wq (Mem.below HC.out.2.1 H1.out)).mono ?_; rintro e wr ⟨⟨r, rfl⟩, ht⟩; have H2 := Lib.hid ht; clear ht)
    | fail)
  have hq1 := Mem.below HC.out.2.1 H1.out
  have hbq : Below w.heap.size w wq := HC.out.1.trans (H1.out.mono HC.out.1.size)
  obtain ⟨F2, hs2, hf2, hon⟩ := H2.out
  obtain ⟨B2, hp2, hBF2, hto2⟩ := Mem.r hs2
  obtain ⟨o', o2', m', hpr⟩ := hp2
  obtain ⟨b, rfl⟩ : ∃ b, o' = some b := by
    rcases hpr.mo with ⟨-, e⟩ | ⟨b, e, -⟩
    · have := (hpr.rel.2 d).1.1 (by rw [e]; rfl)
      rw [HD.out] at this; cases this
    · exact ⟨b, e⟩
  have hm : MapD codNt b m' wr.drew := by
    rcases hpr.mo with ⟨e, -⟩ | ⟨b', e, q⟩
    · cases e
    · cases e; exact q.block (w' := wr.drew) rfl
  have hbq1 : wq.rangeAt hb 0 (Bs d.s) := rangeAt_block HBX2.out (H1.out.block hb (hash_lt HBX2.out))
  have hbox : wr.drew.rangeAt hb 0 (Bs d.s) := rangeAt_block (w := wq) hbq1 (hon.block hb (hash_lt hbq1) HFH.out (fun e => e))
  obtain ⟨w2, e1, e2, e3, e4⟩ := hm.drop Tryz.underlying91 d 0
  have e1 : (Builtin.delete_ #[91, 41] 0 #[.map (some b), .agg (Bs d.s).toArray]).run Tryz.prog wr.drew = .ok (.tuple #[]) w2 := e1
  have hbb : b ≠ pb := hpr.pbNe.1 b rfl
  have hbh : b ≠ hb := by
    intro q
    obtain ⟨es, cl, hh⟩ := hpr.mo.notCells rfl
    exact hash_noMap hbox (by rw [← q]; exact hh)
  have k1 : wr.drew.cell? ⟨pb, 0, none⟩ = some (.map (some b)) := hpr.c0
  have hrel2 : NtRel B2 wr (ddel m' d) (ddel P d) := ⟨hpr.rel.1.del d, fun j => by
    rw [hm.srt.get_del, hpr.rel.1.get_del]
    by_cases e : j = d
    · simp [e]
    · simp only [e, if_false]; exact hpr.rel.2 j⟩
  have KA := Lib.hid (And.intro k1 hbox)
  have KC := Lib.hid (And.intro ((World.cell?_of_block (a := ⟨pb, 0, none⟩) (e3.block pb (hpr.lt pb hpr.own) (fun q => by cases q; exact hbb rfl))).trans k1) (rangeAt_block hbox (e3.block _ (hash_lt hbox) (fun q => by cases q; exact hbh rfl))))
  have hset := hpr.setM (w' := w2) (P' := ddel P d) (m' := ddel m' d) rfl e2 hrel2 ⟨e3.os, e3.tape, e3.output, e3.size, e3.block⟩
  have HQ := Lib.hid (Mem.to_then (F := F) (w := wq) ⟨F2, hs2, hf2, hon, hto2 _ _ hset⟩)
  have HBQ := Lib.hid hbq
  clear hpr hm hbox e2 e3 e4 hbb hbh k1 hbq hbq1 hset hrel2 hto2 hs2 hf2 hon hBF2 hq1
  go_region_held3 (fun w' => w'.cell? ⟨pb, 0, none⟩ = some (.map (some b)) ∧ w'.rangeAt hb 0 (Bs d.s)) (first | exact KA.out | exact KC.out) (fail)
  all_goals
    try go_wp2_with fail
    exact bodyPost_ret (v := .int .i64 0) (by simp [results, Tryz.results18, go_sem]) rfl ⟨rfl, Mem.to_later HBQ.out HQ.out⟩
end Go.Proofs.YtcfcfijmfgnpfaaGreatDoor
end
