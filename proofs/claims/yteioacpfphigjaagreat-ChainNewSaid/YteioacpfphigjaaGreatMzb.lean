/-
  Joined texts.
-/
import Derived.LoopNIn
import Derived.LoopIn
import Derived.WalkKit
import Derived.Lib.Hide
import Derived.Below
import Derived.OwnWalkIn
import Derived.Maps.OwnIn
import Derived.Maps.AppendAt
import Derived.Deep.MidRow
import Derived.Deep.WholeRow
import Derived.Great.BuildSlice
import Derived.RangeFuncBox
import Derived.Laws.Tables
import Derived.Deep.RegionLaw
import Derived.Laws.OwnMore
import Derived.Laws.Rows
import Derived.Test.YteioacpfphigjaaGreatChecked
import Derived.WalkSpells
import Derived.WalkLawsBesides
import Derived.Deep.QuietTactic
import Derived.BigQuiet
import Derived.Deep.RegionHeld3
import Derived.IntWalk
import Derived.BigRegion
import Derived.RegionTactic
import Derived.Test.YteioacpfphigjaaGreatMza

section
namespace Go.Proofs.YteioacpfphigjaaGreat
open Go.RowKit Go.Maps Go.Shelf
attribute [local go_sem] Oper.semAt_some
set_option linter.unusedVariables false
set_option linter.unusedSimpArgs false

theorem Only.undrew {Ψ Φ : FP} {A B : World} (h : Only Ψ Φ A.drew B) : Only Ψ Φ A B := ⟨⟨h.grow.os, h.grow.tape, h.grow.output, h.grow.size⟩, h.block⟩
theorem pre_snoc {α : Type} {xs : List α} {k : Nat} (h : k < xs.length) : xs.take k ++ [xs[k]] = xs.take (k + 1) := by rw [List.take_succ_eq_append_getElem h]
theorem OwnN.at {B : Nat} {v : Value} {l : List Int} {w : World} (h : OwnN B v l w) {k : Nat} (hk : k < l.length) : ∃ b cap, v = .slice (some ⟨b, 0, none⟩) l.length cap ∧ w.cell? ⟨b, k, none⟩ = some (.int .i64 l[k]) ∧ B ≤ b ∧ b < w.heap.size := by
  obtain ⟨ao, cap, rfl, h2⟩ := h.reads
  obtain ⟨b, off, rfl, e2, e3⟩ := h2 k hk
  rcases h.2 with ⟨e, _⟩ | ⟨g, c', cur, e, hb, _⟩
  · cases e
  · have : (some ⟨b, off, none⟩ : Option Addr) = some ⟨g, 0, none⟩ := by injection e
    injection this with this
    injection this with t1 t2 t3
    subst t1 t2
    rw [Nat.zero_add] at e2
    exact ⟨b, cap, rfl, e2, hb, e3⟩

/-- What a look at a table finds. -/
theorem GrAt.look_I {g : Nat} {M : Cls Int} {F : FP} {w : World} (h : GrAt codI 155 g M F w) {a b : Int} (ha : (Lit.int .i64 a).wf = true) (hb : (Lit.int .i64 b).wf = true) :
    ∃ mv mi, w.cell? ⟨g, 0, none⟩ = some (.map mv) ∧ (Instr.lookup 152 (.map mv) (.int .i64 a) false).run Tryz.prog w = .ok (.map mi) w ∧
      (Instr.lookup 320 (.map mi) (.int .i64 b) false).run Tryz.prog w = .ok (codI.enc ((cget M a b).getD (0 : Int))) w := by
  have hu1 : Tryz.prog.underlying 152 = some (.map 3 320) := Tryz.underlying152
  have hu2 : Tryz.prog.underlying 320 = some (.map 3 3) := Tryz.underlying320
  have hz1 : ∀ w, (zeroValue 320).run Tryz.prog w = .ok (codM.enc none) w := fun w => Tryz.zeroValue320 w
  have hz2 : ∀ w, (zeroValue 3).run Tryz.prog w = .ok (codI.enc (0 : Int)) w := fun w => Tryz.zeroValue3 w
  obtain ⟨_, _, _, (⟨rfl, hh⟩ | ⟨B, C, rm, cm, hh, hM, _⟩)⟩ := h
  · exact ⟨none, none, by rw [World.cell?, hh]; rfl, nil_look hu1 (hz1 w) ha false, nil_look hu2 (hz2 w) hb false⟩
  · have hl := hM.row.map.look (z0 := none) hu1 (hz1 w) ha
    cases hs : sget rm a with
    | none =>
      rw [hs] at hl
      refine ⟨some B, none, by rw [World.cell?, hh]; rfl, hl, ?_⟩
      have hr := hM.row.isNil hs
      have : cget M a b = none := by rw [cget, hr]; rfl
      rw [this]
      exact nil_look hu2 (hz2 w) hb false
    | some x =>
      obtain ⟨b', rfl, _, _, h3⟩ := hM.row.at_ a x hs
      rw [hs] at hl
      exact ⟨some B, some b', by rw [World.cell?, hh]; rfl, hl, h3.look hu2 (hz2 w) hb⟩
/-- A row's keys, rising. -/
theorem GrAt.rises_row_I {g : Nat} {M : Cls Int} {F : FP} {w : World} (h : GrAt codI 155 g M F w) (hlen : M.length ≤ 100000) {a : Int} (ha : (Lit.int .i64 a).wf = true) :
    ∃ mv mi, w.cell? ⟨g, 0, none⟩ = some (.map mv) ∧ (Instr.lookup 152 (.map mv) (.int .i64 a) false).run Tryz.prog w = .ok (.map mi) w ∧
      Calls Tryz.prog 180 #[.map mi] w (fun e w' => ∃ v, e = .returned v ∧ OwnN w.heap.size v ((rowOf M a).map (·.1)) w' ∧ Below w.heap.size w w') := by
  have hu1 : Tryz.prog.underlying 152 = some (.map 3 320) := Tryz.underlying152
  have hz1 : ∀ w, (zeroValue 320).run Tryz.prog w = .ok (codM.enc none) w := fun w => Tryz.zeroValue320 w
  have hnil : rowOf M a = [] → Calls Tryz.prog 180 #[.map none] w (fun e w' => ∃ v, e = .returned v ∧ OwnN w.heap.size v ((rowOf M a).map (·.1)) w' ∧ Below w.heap.size w w') := fun e => by
    refine (rising_I_nil w).mono ?_
    rintro _ w' ⟨rfl, hb⟩
    rw [e]
    exact ⟨_, rfl, OwnN.nil _ _, hb⟩
  have hr := row_length M a
  obtain ⟨_, _, _, (⟨rfl, hh⟩ | ⟨B, C, rm, cm, hh, hM, _⟩)⟩ := h
  · exact ⟨none, none, by rw [World.cell?, hh]; rfl, nil_look hu1 (hz1 w) ha false, hnil rfl⟩
  · have hl := hM.row.map.look (z0 := none) hu1 (hz1 w) ha
    cases hs : sget rm a with
    | none =>
      rw [hs] at hl
      exact ⟨some B, none, by rw [World.cell?, hh]; rfl, hl, hnil (hM.row.isNil hs)⟩
    | some x =>
      obtain ⟨b', rfl, _, _, h3⟩ := hM.row.at_ a x hs
      rw [hs] at hl
      refine ⟨some B, some b', by rw [World.cell?, hh]; rfl, hl, (rising_I h3 (by omega)).mono ?_⟩
      rintro e w' ⟨v, rfl, ho, _, hb⟩
      refine ⟨v, rfl, ?_, hb⟩
      unfold OwnN Is
      rw [List.length_map, List.map_map]
      exact ho
theorem GrAt.wf {β : Type} {c : Cod β} {T : TypeId} {g : Nat} {M : Cls β} {F : FP} {w : World} (h : GrAt c T g M F w) {x : (Int × Int) × β} (hx : x ∈ M) : (Lit.int .i64 x.1.1).wf = true ∧ (Lit.int .i64 x.1.2).wf = true := by
  obtain ⟨_, _, _, (⟨rfl, hh⟩ | ⟨B, C, rm, cm, hh, hM, _⟩)⟩ := h
  · cases hx
  · have hr : (x.1.2, x.2) ∈ rowOf M x.1.1 := mem_rowOf.2 hx
    obtain ⟨b, hb⟩ := hM.row.has x.1.1 (List.ne_nil_of_mem hr)
    obtain ⟨b', e, _, _, h3⟩ := hM.row.at_ _ _ hb
    exact ⟨hM.row.map.wf (sget_mem hb), h3.wf hr⟩

set_option maxHeartbeats 4000000 in
set_option maxRecDepth 100000 in
theorem row_iter_I (n : Nat) (bx ba g : Nat) (M : Cls Int) (F : FP) (s : Int) (w : World) (hbx : w.cell? ⟨bx, 0, none⟩ = some (.pointer (some ⟨g, 0, none⟩))) (hba : w.cell? ⟨ba, 0, none⟩ = some (.int .i64 s)) (h : GrAt codI 155 g M F w) (hlen : M.length ≤ 100000) (hs : (Lit.int .i64 s).wf = true)
    (G : FP) (hGb : G bx) (hGa : G ba) (hGF : ∀ k, F k → G k) :
    Iter Tryz.prog n 179 #[.pointer (some ⟨bx, 0, none⟩), .pointer (some ⟨ba, 0, none⟩)] (fun x : Int × Int => #[.int .i64 x.1, codI.enc x.2]) (rowOf M s) G w := by
  intro lp B Ψ J Jx Φ0 W hgw hG hΨ hΦ0 hJ hJx hround h0
  have hc1 : W.cell? ⟨bx, 0, none⟩ = some (.pointer (some ⟨g, 0, none⟩)) := (World.cell?_of_block (hG bx hGb).2).trans hbx
  have hc2 : W.cell? ⟨ba, 0, none⟩ = some (.int .i64 s) := (World.cell?_of_block (hG ba hGa).2).trans hba
  have hW : GrAt codI 155 g M F W := h.keep hgw (fun k hk => (hG k (hGF k hk)).2)
  have hWd : GrAt codI 155 g M F W.drew := hW.keep ⟨rfl, rfl, rfl, Nat.le_refl _⟩ (fun _ _ => rfl)
  obtain ⟨mv, mi, hcm, hlm, hrise⟩ := hWd.rises_row_I hlen hs
  have hcm : W.cell? ⟨g, 0, none⟩ = some (.map mv) := hcm
  obtain ⟨hs1, hs2, hs3⟩ := hJ _ _ _ h0
  have mixed : Tryz.prog.follows .mixedOrders = true := by kernel_rfl
  refine callsIn_of_wp Tryz.func179 rfl trivial ?_ rfl
  simp only [Tryz.ntmps179, List.size_toArray, List.length_cons, List.length_nil, Nat.reduceAdd, Nat.reduceSub, Array.replicate_succ, Array.replicate_zero, List.push_toArray, List.append_toArray, List.nil_append, List.cons_append]
  have hsrt := hW.1
  obtain ⟨xs, hxs⟩ : ∃ xs, xs = rowOf M s := ⟨_, rfl⟩
  obtain ⟨ks, hks⟩ : ∃ ks, ks = (rowOf M s).map (·.1) := ⟨_, rfl⟩
  rw [← hks] at hrise
  rw [← hxs] at hround ⊢
  have hkl : ks.length = xs.length := by rw [hks, hxs]; simp
  have hbig : (ks.length : Int) ≤ 100000 := by rw [hkl, hxs]; have := row_length M s; omega
  have HXS := Lib.hid hxs
  have HKS := Lib.hid (And.intro hks (And.intro hkl hsrt))
  clear hxs hks hkl hsrt
  have HW := Lib.hid hW
  have HRS := Lib.hid hrise
  have HRD := Lib.hid hround
  have HJ := Lib.hid hJ
  have HP := Lib.hid hΨ
  have HP0 := Lib.hid hΦ0
  have HG := Lib.hid hG
  have HGF := Lib.hid (And.intro hGb (And.intro hGa hGF))
  have HH0 := Lib.hid h0
  have HS3 := Lib.hid hs3
  have HS1 := Lib.hid hs1
  have HL := Lib.hid hlen
  have HWF := Lib.hid hs
  clear hW hWd hrise hround hJ hJx hG hΨ hΦ0 hbx hba hGb hGa hGF h0 hs1 hs3 hlen hs h
  gi_wp2_with fail
  refine region_meet (R := fun a wc => ∃ co ccap, a = { tmps := #[.func (.yield lp) #[] #[], .pointer (some ⟨bx, 0, none⟩), .pointer (some ⟨ba, 0, none⟩), undef, undef, undef, .pointer (some ⟨g, 0, none⟩), .bool false, .pointer (some ⟨g, 0, none⟩), .pointer (some ⟨g, 0, none⟩), .pointer (some ⟨g, 0, none⟩), .map mv, .int .i64 s, .map mi, .slice co ks.length ccap, .int .i64 ks.length, .int .i64 0, undef, undef, undef, undef, undef, undef, undef, undef, undef, undef, undef, undef, undef, undef, undef, undef], defers := [] } ∧ OwnN W.drew.heap.size (.slice co ks.length ccap) ks wc ∧ Below W.drew.heap.size W.drew wc) ?_ ?_
  · go_region_with (first | (go_at_call 180; refine HRS.out.mono ?_; rintro e wc ⟨vc, rfl, hoc, hbc⟩; obtain ⟨co, ccap, rfl⟩ := hoc.lenOf; have HOC := Lib.hid hoc; have HBC := Lib.hid hbc; clear hoc hbc) | fail)
    all_goals exact ⟨co, ccap, rfl, HOC.out, HBC.out⟩
  rintro _ wc ⟨co, ccap, rfl, hoc, hbc⟩
  have HOC := Lib.hid hoc
  have HBC := Lib.hid hbc
  clear hoc hbc
  have hcs : W.heap.size ≤ wc.heap.size := HBC.out.size
  have hbc' : Below W.heap.size W wc := ((Below.refl _ W).drew).trans (show Below W.heap.size W.drew wc from HBC.out)
  have HO1 := Lib.hid (Only.of_later (Ψ := Ψ) (Φ := Φ0) hbc')
  have hJc : J [] Φ0 wc := HS3.out wc (Grow.of_below hbc') (fun k hk => hbc'.block k (hk.elim (fun h => by omega) (fun h => (HS1.out k h).2)))
  have HJC := Lib.hid hJc
  have hkeep : ∀ wr, Only Ψ Φ0 wc wr → OwnN W.heap.size (.slice co ks.length ccap) ks wr ∧ GrAt codI 155 g M F wr ∧ wr.cell? ⟨bx, 0, none⟩ = some (.pointer (some ⟨g, 0, none⟩)) ∧ wr.cell? ⟨ba, 0, none⟩ = some (.int .i64 s) := fun wr ho => by
    have hgk : ∀ k, G k → wr.heap[k]? = W.heap[k]? := fun k hk => by
      have hkW : k < W.heap.size := by have := (HG.out k hk).1; have := hgw.size; omega
      rw [ho.block k (by omega) (fun h => (HP.out k h).2 hk) (fun h => HP0.out k h hk)]
      exact hbc'.block k hkW
    refine ⟨OwnN.of HOC.out (Nat.le_refl _) (fun k hk => ?_), HW.out.keep ((Grow.of_below hbc').trans ho.grow) (fun k hk => hgk k (HGF.out.2.2 k hk)), (World.cell?_of_block (hgk bx HGF.out.1)).trans hc1, (World.cell?_of_block (hgk ba HGF.out.2.1)).trans hc2⟩
    obtain ⟨h1, h2⟩ := HOC.out.block hk
    have h1 : W.heap.size ≤ k := h1
    exact ho.block k h2 (fun h => by have := (HP.out k h).1; omega) (fun h => by have := (HS1.out k h).2; omega)
  have HK := Lib.hid hkeep
  clear hkeep hJc hbc' hc1 hc2 hlm hcm
  gi_wp2_with fail
  gi_loopw [16] (fun r wr => ∃ (k : Nat) (Φ : FP), k ≤ ks.length ∧ r = .int .i64 k ∧ J (xs.take k) Φ wr ∧ Only Ψ Φ0 wc wr ∧ (∀ j, Φ j → Φ0 j ∨ wc.heap.size ≤ j)) (fun r wr => ks.length - (intOf r).toNat)
  case atStart => exact ⟨0, Φ0, Nat.zero_le _, rfl, HJC.out, Only.refl _ _ _, fun j h => .inl h⟩
  case round =>
    obtain ⟨k, Φ, hk, rfl, hJ2, ho2, hn2⟩ := hrel
    obtain ⟨hkl, hkl2, hsrt⟩ := HKS.out
    by_cases hlt : k < ks.length
    · have hlt' : (k : Int) < ks.length := by omega
      obtain ⟨hoW, hGW, cb, ca⟩ := HK.out wr ho2
      obtain ⟨b, cap, hv, hcell, hbl, hbu⟩ := hoW.at hlt
      injection hv with hv1 hv2 hv3
      subst hv1
      have hltx : k < xs.length := by omega
      obtain ⟨x, hx⟩ : ∃ x, x = xs[k] := ⟨_, rfl⟩
      have hy : ks[k] = x.1 := by simp only [hkl, hx, HXS.out, List.getElem_map]
      rw [hy] at hcell
      have hxm : x ∈ rowOf M s := by rw [← HXS.out, hx]; exact List.getElem_mem _
      have hxM := (mem_rowOf (x := x)).1 hxm
      have hwfx := hGW.wf hxM
      have hget : cget M s x.1 = some x.2 := hsrt.get.2 hxM
      obtain ⟨mv', mi', cm, l1, l2⟩ := (hGW.keep (w' := wr.drew) ⟨rfl, rfl, rfl, Nat.le_refl _⟩ (fun _ _ => rfl)).look_I (a := s) (b := x.1) HWF.out hwfx.2
      rw [hget, Option.getD_some] at l2
      have cm : wr.cell? ⟨g, 0, none⟩ = some (.map mv') := cm
      have htk : xs.take k ++ [x] = xs.take (k + 1) := by rw [hx]; exact pre_snoc hltx
      have hpre : (xs.take k ++ [x]) <+: xs := by rw [htk]; exact List.take_prefix _ _
      obtain ⟨q1, q2, q3⟩ := HJ.out _ _ _ hJ2
      have hJd : J (xs.take k) Φ wr.drew := q3 wr.drew ⟨rfl, rfl, rfl, Nat.le_refl _⟩ (fun _ _ => rfl)
      obtain ⟨fn, tm, asg, bd, hyy, hR⟩ := HRD.out (xs.take k) x Φ wr.drew hpre hJd
      dsimp only at hyy
      obtain ⟨yv, hyv⟩ : ∃ yv, yv = x.1 := ⟨_, rfl⟩
      rw [← hyv] at hcell hyy l2
      obtain ⟨ev, hev⟩ : ∃ ev, ev = codI.enc x.2 := ⟨_, rfl⟩
      rw [← hev] at hyy l2
      have HT := Lib.hid htk
      have HPR := Lib.hid hpre
      have HO2 := Lib.hid ho2
      have HN2 := Lib.hid hn2
      have HR := Lib.hid hR
      clear htk hpre q1 q2 q3 hx hy hyv hev hJ2 hJd ho2 hn2 hR hxm hxM hget hwfx hoW hGW hkl hkl2 hsrt hv2 hv3
      gi_wp2_with fail
      refine wpIn_region_still_tail 10 mixed (by kernel_rfl) ?_
      simp only [List.take_succ_cons, List.take_zero, List.drop_succ_cons, List.drop_zero]
      change wpStill _ _ wr.drew _ _ _
      repeat still_step
      refine wpStill_nil ?_
      change wpListIn _ _ _ _ _ _ _ wr.drew
      gi_wp2
      refine HR.out.mono ?_
      rintro e W' ⟨Φ', hn', ho', (⟨rfl, hJ'⟩ | ⟨rfl, hJ'⟩)⟩
      · have ho3 : Only Ψ Φ0 wc W' := HO2.out.trans (Only.undrew ho') HN2.out
        have hn3 : ∀ j, Φ' j → Φ0 j ∨ wc.heap.size ≤ j := fun j hj => (hn' j hj).elim (HN2.out j) (fun h => .inr (by have := HO2.out.grow.size; have : wr.heap.size ≤ j := h; omega))
        gi_wp2
        exact ⟨⟨k + 1, Φ', hlt, by go_num, by rw [← HT.out]; exact hJ', ho3, hn3⟩, by simp [intOf]; omega⟩
      · have ho3 : Only Ψ Φ0 wc W' := HO2.out.trans (Only.undrew ho') HN2.out
        have hn3 : ∀ j, Φ' j → Φ0 j ∨ wc.heap.size ≤ j := fun j hj => (hn' j hj).elim (HN2.out j) (fun h => .inr (by have := HO2.out.grow.size; have : wr.heap.size ≤ j := h; omega))
        gi_wp2
        refine bodyPost_ret (results_none rfl _ _ _) rfl ?_
        exact ⟨⟨_, rfl⟩, Φ', fun j hj => (hn3 j hj).imp id (fun h => by omega), HO1.out.trans ho3 (fun j h => .inl h), .inr ⟨_, HPR.out, hJ'⟩⟩
    · have hkn : k = ks.length := by omega
      subst hkn
      rw [hkl2, List.take_length] at hJ2
      clear hkl hkl2 hsrt
      gi_wp2
      refine bodyPost_end (results_none rfl _ _ _) rfl ?_
      exact ⟨⟨_, rfl⟩, Φ, fun j hj => (hn2 j hj).imp id (fun h => by omega), HO1.out.trans ho2 (fun j h => .inl h), .inl hJ2⟩

set_option maxHeartbeats 4000000 in
theorem row_iter_nil_I (n : Nat) (bx ba : Nat) (w : World) (hbx : w.cell? ⟨bx, 0, none⟩ = some (.pointer none)) (G : FP) (hGb : G bx) :
    Iter Tryz.prog n 179 #[.pointer (some ⟨bx, 0, none⟩), .pointer (some ⟨ba, 0, none⟩)] (fun x : Int × Int => #[.int .i64 x.1, codI.enc x.2]) [] G w := by
  intro lp B Ψ J Jx Φ0 W hgw hG hΨ hΦ0 hJ hJx hround h0
  have hc1 : W.cell? ⟨bx, 0, none⟩ = some (.pointer none) := (World.cell?_of_block (hG bx hGb).2).trans hbx
  refine callsIn_of_wp Tryz.func179 rfl trivial ?_ rfl
  simp only [Tryz.ntmps179, List.size_toArray, List.length_cons, List.length_nil, Nat.reduceAdd, Nat.reduceSub, Array.replicate_succ, Array.replicate_zero, List.push_toArray, List.append_toArray, List.nil_append, List.cons_append]
  have HH0 := Lib.hid h0
  clear hround hJ hJx hG hΨ hbx hGb h0
  gi_wp2
  refine bodyPost_ret (results_none rfl _ _ _) rfl ?_
  exact ⟨⟨_, rfl⟩, Φ0, fun j h => .inl h, Only.refl _ _ _, .inl HH0.out⟩
theorem enters_row1_I : ∀ args w, (callFunc 179 args).run Tryz.prog w = .ok (.enter 179 args) w := enters_of Tryz.func179 (by kernel_rfl) rfl
theorem grid_row_I (p : Option Addr) (s : Int) (w : World) : Calls Tryz.prog 171 #[.pointer p, .int .i64 s] w fun e w' => e = .returned (.func (.func 179) #[] #[.pointer (some ⟨w.heap.size, 0, none⟩), .pointer (some ⟨w.heap.size + 1, 0, none⟩)]) ∧ w' = (w.alloc (.cells #[.pointer p] 73)).alloc (.cells #[.int .i64 s] 3) := by
  go_enter Tryz.func171, Tryz.ntmps171
  go_wp2
  go_ret
  exact ⟨rfl, rfl⟩

end Go.Proofs.YteioacpfphigjaaGreat
end

section
namespace Go.Proofs.YteioacpfphigjaaGreat
open Go.RowKit
set_option linter.unusedVariables false
set_option linter.unusedSimpArgs false

/-- A kind of struct: its type, its rows' type, its cells. -/
structure RowTy (P : Program) (α : Type) where
  T : TypeId
  S : TypeId
  k : Nat
  f : α → List Value
  len : ∀ x, (f x).length = k
  one : ∀ x, ∀ u ∈ f x, u.oneCell' = true
  pos : 0 < k
  small : k ≤ 1000
  slice : P.underlying S = some (.slice T)
  info : ∃ i0 z b, P.info? T = some i0 ∧ i0.zero = some (.agg z) ∧ i0.size = k ∧ z.size = k ∧ i0.bytes = b ∧ b ≤ 8000
  row : ∃ d, P.underlying T = some d ∧ d.isRow = true

section
variable {P : Program} {α : Type} (r : RowTy P α)
def RowTy.all (xs : List α) : List Value := xs.flatMap r.f
theorem RowTy.all_nil : r.all [] = [] := rfl
theorem RowTy.all_one (x : α) : r.all [x] = r.f x := by simp [RowTy.all]
theorem RowTy.all_cons (x : α) (xs : List α) : r.all (x :: xs) = r.f x ++ r.all xs := by simp [RowTy.all]
theorem RowTy.all_append (a b : List α) : r.all (a ++ b) = r.all a ++ r.all b := by simp [RowTy.all]
theorem RowTy.all_len : ∀ xs : List α, (r.all xs).length = xs.length * r.k
  | [] => by simp [RowTy.all]
  | x :: xs => by rw [r.all_cons, List.length_append, r.len, RowTy.all_len xs, List.length_cons, Nat.add_mul, Nat.one_mul, Nat.add_comm]
theorem RowTy.all_ones (xs : List α) : ∀ u ∈ r.all xs, u.oneCell' = true := by
  intro u hu
  obtain ⟨t, -, h⟩ := List.mem_flatMap.1 hu
  exact r.one t u h
theorem RowTy.all_drop (xs : List α) (j : Nat) : (r.all xs).drop (j * r.k) = r.all (xs.drop j) := by
  by_cases h : j ≤ xs.length
  · have e : r.all xs = r.all (xs.take j) ++ r.all (xs.drop j) := by rw [← r.all_append, List.take_append_drop]
    have hl : (r.all (xs.take j)).length = j * r.k := by rw [r.all_len, List.length_take, Nat.min_eq_left h]
    rw [e, ← hl, List.drop_left]
  · have h1 : xs.length * r.k ≤ j * r.k := Nat.mul_le_mul_right _ (by omega)
    rw [List.drop_of_length_le (by rw [r.all_len]; exact h1), List.drop_of_length_le (by omega)]; rfl
theorem RowTy.all_at {xs : List α} {i : Nat} (hi : i < xs.length) {j : Nat} (hj : j < r.k) : (r.all xs)[i * r.k + j]? = (r.f xs[i])[j]? := by
  have h1 : (r.all xs)[i * r.k + j]? = ((r.all xs).drop (i * r.k))[j]? := by rw [List.getElem?_drop]
  rw [h1, r.all_drop, List.drop_eq_getElem_cons hi, r.all_cons, List.getElem?_append_left (by rw [r.len]; exact hj)]
theorem RowTy.sizeT : (P.info? r.T).map (·.size) = some r.k := by
  obtain ⟨i0, z, b, h1, h2, h3, _⟩ := r.info
  rw [h1]; simp [h3]

/-- Structs that the call owns. -/
def OwnR (B : Nat) (v : Value) (xs : List α) (w : World) : Prop := w.ownsRow B r.T r.k v xs.length (r.all xs)
/-- Structs that are only read. -/
def RdR (w : World) (v : Value) (xs : List α) : Prop :=
  (v = .slice none 0 0 ∧ xs = []) ∨ ∃ b off cap, v = .slice (some ⟨b, off, none⟩) xs.length cap ∧ xs.length ≤ cap ∧ b < w.heap.size ∧ w.rangeAt b off (r.all xs)
variable {r} {w w' : World} {v : Value} {xs : List α} {B : Nat}
theorem RdR.lenOf (h : RdR r w v xs) : ∃ ao cap, v = .slice ao xs.length cap := by
  rcases h with ⟨rfl, rfl⟩ | ⟨b, off, cap, rfl, -⟩
  · exact ⟨none, 0, rfl⟩
  · exact ⟨_, cap, rfl⟩
theorem rangeAt_block {b o : Nat} {cs : List Value} (h : w.rangeAt b o cs) (hk : w'.heap[b]? = w.heap[b]?) : w'.rangeAt b o cs := fun j u hj =>
  (World.cell?_of_block (a := ⟨b, o + j, none⟩) hk).trans (h j u hj)
theorem RdR.keep (h : RdR r w v xs) (hs : w.heap.size ≤ w'.heap.size) (hk : ∀ k, v.ownBlock = some k → w'.heap[k]? = w.heap[k]?) : RdR r w' v xs := by
  rcases h with h | ⟨b, off, cap, rfl, hl, hb, hr⟩
  · exact .inl h
  · exact .inr ⟨b, off, cap, rfl, hl, Nat.lt_of_lt_of_le hb hs, rangeAt_block hr (hk b rfl)⟩
theorem RdR.below (h : RdR r w v xs) (hb : Below w.heap.size w w') : RdR r w' v xs := by
  rcases h with h | ⟨b, off, cap, rfl, hl, hlt, hr⟩
  · exact .inl h
  · exact .inr ⟨b, off, cap, rfl, hl, Nat.lt_of_lt_of_le hlt hb.size, rangeAt_block hr (hb.block b hlt)⟩
theorem RdR.at {ao : Option Addr} {n cap : Nat} (h : RdR r w (.slice ao n cap) xs) {i : Nat} (hi : i < xs.length) :
    ∃ b off, ao = some ⟨b, off, none⟩ ∧ w.rangeAt b (off + i * r.k) (r.f xs[i]) ∧ b < w.heap.size := by
  rcases h with ⟨-, h2⟩ | ⟨b, off, c, h1, -, hlt, h3⟩
  · rw [h2] at hi; simp at hi
  · injection h1 with e1
    refine ⟨b, off, e1, fun j u hj => ?_, hlt⟩
    have hjk : j < r.k := by
      have := (List.getElem?_eq_some_iff.1 hj).1
      rwa [r.len] at this
    have := h3 (i * r.k + j) u (by rw [r.all_at hi hjk]; exact hj)
    rwa [show off + (i * r.k + j) = off + i * r.k + j by omega] at this
theorem OwnR.block (h : OwnR r B v xs w) {k : Nat} (hk : v.ownBlock = some k) : B ≤ k ∧ k < w.heap.size := World.ownsRow.lt h k hk
theorem OwnR.reads (h : OwnR r B v xs w) : RdR r w v xs := by
  have h0 := h
  obtain ⟨h1, h2⟩ := h
  rcases h2 with ⟨rfl, hn⟩ | ⟨g, cap, cur, rfl, hb, hg, hn, hm, hs, ht⟩
  · exact .inl ⟨rfl, List.eq_nil_of_length_eq_zero hn⟩
  · refine .inr ⟨g, 0, cap, rfl, hn, (h0.block rfl).2, fun j u hj => ?_⟩
    have : cur.toList[j]? = some u := by
      rw [← ht] at hj
      have := (List.getElem?_eq_some_iff.1 hj).1
      rw [List.length_take] at this
      rwa [List.getElem?_take_of_lt (by omega)] at hj
    rw [Nat.zero_add, World.cell?, hg]
    simpa using this
theorem OwnR.lenOf (h : OwnR r B v xs w) : ∃ ao cap, v = .slice ao xs.length cap := h.reads.lenOf
theorem OwnR.of {S' : Nat} (h : OwnR r B v xs w) (hS : S' ≤ B) (hk : ∀ k, v.ownBlock = some k → w'.heap[k]? = w.heap[k]?) : OwnR r S' v xs w' := by
  obtain ⟨h1, h2⟩ := h
  refine ⟨h1, ?_⟩
  rcases h2 with h2 | ⟨g, cap, cur, rfl, hb, hg, hn, hm, hs, ht⟩
  · exact .inl h2
  · exact .inr ⟨g, cap, cur, rfl, by omega, (hk g rfl).trans hg, hn, hm, hs, ht⟩
theorem OwnR.nil (w : World) (B : Nat) : OwnR r B (.slice none 0 0) [] w := World.ownsRow_nil w B _ r.k
/-- One more, appended. -/
theorem run_appR {ub : Nat} {y : α} (hown : OwnR r B v xs w) (hr : w.rangeAt ub 0 (r.f y)) (hlen : xs.length ≤ 1000000) (hB : B ≤ w.heap.size) (ty : TypeId) :
    ∃ v' w', (Builtin.append_ #[r.S, r.S] ty #[v, .slice (some ⟨ub, 0, none⟩) 1 1]).run P w = .ok v' w' ∧ OwnR r B v' (xs ++ [y]) w' ∧ w.grownBy w' v.ownBlock ∧ (v'.ownBlock = v.ownBlock ∨ v'.ownBlock = some w.heap.size) ∧ v' ≠ .slice none 0 0 := by
  obtain ⟨i0, z, b, h1, h2, h3, h4, h5, h6⟩ := r.info
  have hby : (xs.length + 1) * b ≤ 140737488355328 := Nat.le_trans (Nat.mul_le_mul (Nat.succ_le_succ hlen) h6) (by omega)
  obtain ⟨v', w', e1, e2, e3, e4, e5⟩ := run_append_own_at (P := P) (w := w) B r.S ty r.T i0 (.agg z) r.k b r.slice h1 h2 h3 h5 h4 r.pos v _ _ hown ⟨ub, 0, none⟩ 1 1 (r.f y) (by rw [r.len, Nat.one_mul])
    (fun j u hj => by rw [Addr.add_mid]; exact hr j u hj) (r.one y) (by unfold maxLen; omega) hby hB
  refine ⟨v', w', e1, ?_, e3, e5, fun e => by have := (e4.1 e).2; omega⟩
  unfold OwnR
  rw [r.all_append, r.all_one, List.length_append]
  exact e2
section
variable {F : Fence} {nF : Nat} {ops : Array Oper} {rest : List Oper} {o : Oper} {a : Act} {Q : Exit → Act → World → Prop}
theorem wplIn_appR {s x : Operand} {ub : Nat} {y : α} (hgd : o.guard = none) (ho : o.op = .call { callee := .builtin .append, args := #[s, x], argTypes := #[r.S, r.S] }) (hs : a.eval s = v) (hx : a.eval x = .slice (some ⟨ub, 0, none⟩) 1 1)
    (hown : OwnR r B v xs w) (hr : w.rangeAt ub 0 (r.f y)) (hlen : xs.length ≤ 1000000) (hB : B ≤ w.heap.size)
    (h : ∀ v' w', OwnR r B v' (xs ++ [y]) w' → w.grownBy w' v.ownBlock → (v'.ownBlock = v.ownBlock ∨ v'.ownBlock = some w.heap.size) → v' ≠ .slice none 0 0 → wpListIn F nF P ops Q rest (a.put o.dst v') w') : wpListIn F nF P ops Q (o :: rest) a w := by
  obtain ⟨v', w', hrun, h1, h2, h3, h4⟩ := run_appR hown hr hlen hB o.type
  refine wpListIn_plain hgd fun K hK => ?_
  unfold Oper.wpIn
  refine ⟨by simp [Oper.about, ho, resolve, Target.leads, Sem.run_pure], ?_⟩
  rw [Oper.semAt_plain F _ _ (by rw [ho]; intro c hc'; cases hc')]
  simp [execOp, ho, resolve, invoke, builtin, hs, hx, hrun, Result.andThen]
  exact hK _ _ (h v' w' h1 h2 h3 h4)
theorem wpl_appR {s x : Operand} {ub : Nat} {y : α} (hgd : o.guard = none) (ho : o.op = .call { callee := .builtin .append, args := #[s, x], argTypes := #[r.S, r.S] }) (hs : a.eval s = v) (hx : a.eval x = .slice (some ⟨ub, 0, none⟩) 1 1)
    (hown : OwnR r B v xs w) (hr : w.rangeAt ub 0 (r.f y)) (hlen : xs.length ≤ 1000000) (hB : B ≤ w.heap.size)
    (h : ∀ v' w', OwnR r B v' (xs ++ [y]) w' → w.grownBy w' v.ownBlock → (v'.ownBlock = v.ownBlock ∨ v'.ownBlock = some w.heap.size) → v' ≠ .slice none 0 0 → wpList P ops Q rest (a.put o.dst v') w') : wpList P ops Q (o :: rest) a w := by
  obtain ⟨v', w', hrun, h1, h2, h3, h4⟩ := run_appR hown hr hlen hB o.type
  refine wpList_plain hgd fun K hK => ?_
  unfold Oper.wp
  simp [execOp, ho, resolve, invoke, builtin, hs, hx, hrun, Result.andThen]
  exact hK _ _ (h v' w' h1 h2 h3 h4)
theorem run_loadR {b k : Nat} {t : α} (hr : w.rangeAt b k (r.f t)) : (Instr.loadAt r.T (.pointer (some ⟨b, k, none⟩))).run P w = .ok (.agg (r.f t).toArray) w := by
  obtain ⟨d, h1, h2⟩ := r.row
  exact run_loadAt_mid w b k r.T (r.f t) d hr h1 h2 (by rw [r.len]; exact r.sizeT)
theorem wplIn_loadR {b k : Nat} {t : α} (x : Operand) (hgd : o.guard = none) (ho : o.op = .load r.T x) (hx : a.eval x = .pointer (some ⟨b, k, none⟩)) (hr : w.rangeAt b k (r.f t))
    (h : wpListIn F nF P ops Q rest (a.put o.dst (.agg (r.f t).toArray)) w) : wpListIn F nF P ops Q (o :: rest) a w := by
  refine wpListIn_plain hgd fun K hK => ?_
  unfold Oper.wpIn
  refine ⟨by simp [Oper.about, ho], ?_⟩
  rw [Oper.semAt_plain F _ _ (by rw [ho]; intro c hc'; cases hc')]
  unfold execOp
  simp only [ho, hx, Sem.run_bind, Sem.run_pure, run_loadR hr, Result.andThen_ok]
  exact hK _ _ h
theorem wpl_loadR {b k : Nat} {t : α} (x : Operand) (hgd : o.guard = none) (ho : o.op = .load r.T x) (hx : a.eval x = .pointer (some ⟨b, k, none⟩)) (hr : w.rangeAt b k (r.f t))
    (h : wpList P ops Q rest (a.put o.dst (.agg (r.f t).toArray)) w) : wpList P ops Q (o :: rest) a w := by
  obtain ⟨d, h1, h2⟩ := r.row
  exact wpList_load_mid hgd r.T x ho b k hx (r.f t) d hr h1 h2 (by rw [r.len]; exact r.sizeT) h
/-- A new one's place. -/
theorem wplIn_allocR {ty : TypeId} (ht : ty = r.T) (hgd : o.guard = none) (ho : o.op = .alloc ty)
    (h : ∀ C : Array Value, C.size = r.k → wpListIn F nF P ops Q rest (a.put o.dst (.pointer (some ⟨w.heap.size, 0, none⟩))) (w.alloc (.cells C ty))) : wpListIn F nF P ops Q (o :: rest) a w := by
  subst ht
  obtain ⟨i0, z, b, hi, hz0, h3, h4, _⟩ := r.info
  refine wpListIn_plain hgd fun K hK => ?_
  unfold Oper.wpIn
  refine ⟨by simp [Oper.about, ho], ?_⟩
  rw [Oper.semAt_plain F _ _ (by rw [ho]; intro c hc'; cases hc')]
  have := h z h4
  unfold execOp
  simp [ho, Instr.alloc, zeroValue, typeInfo, hi, hz0, newVar, newRow, Value.cells, go_sem]
  exact hK _ _ this
theorem wplIn_storeR {ty : TypeId} {b : Nat} {t : α} {C : Array Value} (x y : Operand) (ht : ty = r.T) (hgd : o.guard = none) (ho : o.op = .store ty x y) (hx : a.eval x = .pointer (some ⟨b, 0, none⟩)) (hy : a.eval y = .agg (r.f t).toArray) (hh : w.heap[b]? = some (.cells C ty (0, 0))) (hC : C.size = r.k)
    (h : wpListIn F nF P ops Q rest (a.put o.dst undef) (w.setRow b (r.f t).toArray)) : wpListIn F nF P ops Q (o :: rest) a w := by
  subst ht
  refine wpListIn_plain hgd fun K hK => ?_
  unfold Oper.wpIn
  refine ⟨by simp [Oper.about, ho], ?_⟩
  rw [Oper.semAt_plain F _ _ (by rw [ho]; intro c hc'; cases hc')]
  unfold execOp
  have hr : (Instr.storeAt r.T (.pointer (some ⟨b, 0, none⟩)) (.agg (r.f t).toArray)).run P w = .ok () (w.setRow b (r.f t).toArray) := by
    simp only [Instr.storeAt, Instr.sureAddr, Sem.run_bind, Sem.run_pure, Result.andThen_ok, run_storeVar_row w b r.T r.T C (r.f t).toArray hh (by rw [List.size_toArray, r.len]; exact r.sizeT) (by simp [r.len, hC]) (by rw [Array.all_eq_true_iff_forall_mem]; intro u hu; exact r.one t u (by simpa using hu))]
  simp only [ho, hx, hy, Sem.run_bind, Sem.run_pure, hr, Result.andThen_ok]
  exact hK _ _ h
end
theorem rangeAt_whole {b : Nat} {T : TypeId} {cs : List Value} (h : w.heap[b]? = some (.cells cs.toArray T (0, 0))) : w.rangeAt b 0 cs := fun j u hj => by
  rw [Nat.zero_add, World.cell?, h]
  simpa using hj
end
end Go.Proofs.YteioacpfphigjaaGreat
end

section
namespace Go.Proofs.YteioacpfphigjaaGreat
open Go.RowKit Go.Maps
set_option linter.unusedVariables false
set_option linter.unusedSimpArgs false

section
variable {P : Program} {α : Type} {r : RowTy P α} {w w' : World} {v u : Value} {xs ys : List α} {B : Nat}
theorem RdR.take {ao : Option Addr} {n cap : Nat} (h : RdR r w (.slice ao n cap) xs) {k : Nat} (hk : k ≤ xs.length) : RdR r w (sliced ao 0 k cap r.k) (xs.take k) := by
  rcases h with ⟨e, rfl⟩ | ⟨b, off, c, e, hc, hb, hr⟩
  · injection e with e1 e2 e3
    subst e1 e2 e3
    have : k = 0 := by simpa using hk
    subst this
    exact .inl ⟨by simp [sliced], by simp⟩
  · injection e with e1 e2 e3
    subst e1 e3
    have hl : (xs.take k).length = k := by simp; omega
    refine .inr ⟨b, off, cap, by rw [hl]; simp [sliced, Addr.add], by rw [hl]; omega, hb, fun j u hj => hr j u ?_⟩
    rw [← List.take_append_drop k xs, r.all_append, List.getElem?_append_left (List.getElem?_eq_some_iff.1 hj).1]
    exact hj
theorem RdR.drop {ao : Option Addr} {n cap : Nat} (h : RdR r w (.slice ao n cap) xs) {k : Nat} (hk : k ≤ xs.length) : RdR r w (sliced ao k n cap r.k) (xs.drop k) := by
  rcases h with ⟨e, rfl⟩ | ⟨b, off, c, e, hc, hb, hr⟩
  · injection e with e1 e2 e3
    subst e1 e2 e3
    have : k = 0 := by simpa using hk
    subst this
    exact .inl ⟨by simp [sliced], by simp⟩
  · injection e with e1 e2 e3
    subst e1 e2 e3
    have hl : (xs.drop k).length = xs.length - k := by simp
    by_cases hkc : cap = k
    · have hd : xs.drop k = [] := List.drop_of_length_le (by omega)
      rw [hd]
      refine .inr ⟨b, off, 0, ?_, Nat.le_refl _, hb, fun j u hj => by simp [RowTy.all] at hj⟩
      simp only [sliced, if_pos hkc, List.length_nil]
      congr 1 <;> omega
    · refine .inr ⟨b, off + k * r.k, cap - k, by rw [hl]; simp [sliced, hkc, Addr.add], by rw [hl]; omega, hb, fun j u hj => ?_⟩
      have hdl : (r.all (xs.take k)).length = k * r.k := by rw [r.all_len, List.length_take, Nat.min_eq_left hk]
      have := hr (k * r.k + j) u (by
        rw [← List.take_append_drop k xs, r.all_append, List.getElem?_append_right (by rw [hdl]; omega), hdl, Nat.add_sub_cancel_left]
        exact hj)
      rwa [← Nat.add_assoc] at this
theorem OwnR.none {b : Nat} (h : w.heap[b]? = some (.cells #[] r.T (0, 0))) (hB : B ≤ b) : OwnR r B (.slice (some ⟨b, 0, none⟩) 0 0) [] w :=
  ⟨by simp [RowTy.all], .inr ⟨b, 0, #[], rfl, hB, h, Nat.le_refl _, by unfold maxLen; omega, by simp, by simp [RowTy.all]⟩⟩
theorem run_noneR (w : World) : (Instr.buildSlice r.S 0 #[]).run P w = .ok (.slice (some ⟨w.heap.size, 0, none⟩) 0 0) (w.alloc (.cells #[] r.T)) := by
  obtain ⟨i0, z, b, h1, h2, h3, h4, h5, h6⟩ := r.info
  simp [Instr.buildSlice, run_underlying r.slice, sizeOf, typeInfo, h1, newRow, Instr.fill]
  have e : ∀ f : Nat → Value, Array.map f (Array.range 0) = #[] := fun f => Array.eq_empty_of_size_eq_zero (by simp)
  rw [e]
theorem run_appsR (hown : OwnR r B v xs w) (hr : RdR r w u ys) (hlen : xs.length + ys.length ≤ 1000000) (hB : B ≤ w.heap.size) (ty : TypeId) :
    ∃ v' w', (Builtin.append_ #[r.S, r.S] ty #[v, u]).run P w = .ok v' w' ∧ OwnR r B v' (xs ++ ys) w' ∧ w.grownBy w' v.ownBlock ∧ (v'.ownBlock = v.ownBlock ∨ v'.ownBlock = some w.heap.size) := by
  obtain ⟨i0, z, b, h1, h2, h3, h4, h5, h6⟩ := r.info
  rcases hr with ⟨rfl, rfl⟩ | ⟨bb, off, cap, rfl, hc, hb, hcell⟩
  · exact ⟨v, w, run_append_owned_none (P := P) (w := w) B r.S ty r.T i0 r.k r.slice h1 v _ _ hown, by rw [List.append_nil]; exact hown, ⟨rfl, rfl, rfl, Nat.le_refl _, fun _ _ _ => rfl⟩, .inl rfl⟩
  · have hby : (xs.length + ys.length) * b ≤ 140737488355328 := Nat.le_trans (Nat.mul_le_mul hlen h6) (by omega)
    obtain ⟨v', w', e1, e2, e3, e4, e5⟩ := run_append_own_at (P := P) (w := w) B r.S ty r.T i0 (.agg z) r.k b r.slice h1 h2 h3 h5 h4 r.pos v _ _ hown ⟨bb, off, none⟩ ys.length cap (r.all ys) (r.all_len ys)
      (fun j u hj => by rw [Addr.add_mid]; exact hcell j u hj) (r.all_ones ys) (by unfold maxLen; omega) hby hB
    refine ⟨v', w', e1, ?_, e3, e5⟩
    unfold OwnR
    rw [r.all_append, List.length_append]
    exact e2
section
variable {ops : Array Oper} {rest : List Oper} {o : Oper} {a : Act} {Q : Exit → Act → World → Prop}
theorem wpl_appsR {s x : Operand} (hgd : o.guard = none) (ho : o.op = .call { callee := .builtin .append, args := #[s, x], argTypes := #[r.S, r.S] }) (hs : a.eval s = v) (hx : a.eval x = u)
    (hown : OwnR r B v xs w) (hr : RdR r w u ys) (hlen : xs.length + ys.length ≤ 1000000) (hB : B ≤ w.heap.size)
    (h : ∀ v' w', OwnR r B v' (xs ++ ys) w' → w.grownBy w' v.ownBlock → (v'.ownBlock = v.ownBlock ∨ v'.ownBlock = some w.heap.size) → wpList P ops Q rest (a.put o.dst v') w') : wpList P ops Q (o :: rest) a w := by
  obtain ⟨v', w', hrun, h1, h2, h3⟩ := run_appsR hown hr hlen hB o.type
  refine wpList_plain hgd fun K hK => ?_
  unfold Oper.wp
  simp [execOp, ho, resolve, invoke, builtin, hs, hx, hrun, Result.andThen]
  exact hK _ _ (h v' w' h1 h2 h3)
theorem step_appsR {K : Act → World → Prop} {E : Prop} (hg : o.guard = none) (d x : Operand) (hop : o.op = Op.call { callee := Callee.builtin Builtin.append, args := #[d, x], argTypes := #[r.S, r.S] })
    (B : Nat) (v u : Value) (xs ys : List α) (hd : a.eval d = v) (hx : a.eval x = u) (hown : OwnR r B v xs w) (hr : RdR r w u ys) (hlen : xs.length + ys.length ≤ 1000000) (hB : B ≤ w.heap.size)
    (hK : ∀ v' w', OwnR r B v' (xs ++ ys) w' → w.grownBy w' v.ownBlock → (v'.ownBlock = v.ownBlock ∨ v'.ownBlock = some w.heap.size) → K (a.put o.dst v') w') :
    if Region.wanted o (yielded ops a.tmps) = true then Oper.wp P o a w K Q else E := by
  obtain ⟨v', w', hrun, h1, h2, h3⟩ := run_appsR hown hr hlen hB o.type
  have hw : Region.wanted o (yielded ops a.tmps) = true := by simp [Region.wanted, hg]
  rw [if_pos hw]
  unfold Oper.wp
  simp [execOp, hop, resolve, invoke, builtin, hd, hx, hrun, Result.andThen]
  exact hK _ _ h1 h2 h3
theorem wpl_sliceHi {ao : Option Addr} {n cap k : Nat} {x y : Operand} (hgd : o.guard = none) (ho : o.op = .slice r.S x none (some y) none) (hx : a.eval x = .slice ao n cap) (hy : a.eval y = .int .i64 k) (hk : k ≤ cap)
    (h : ∀ u, u = sliced ao 0 k cap r.k → wpList P ops Q rest (a.put o.dst u) w) : wpList P ops Q (o :: rest) a w := by
  obtain ⟨i0, z, b, h1, h2, h3, h4, h5, h6⟩ := r.info
  have hs : P.underlying r.S = some (.slice (P.elem r.S)) := by rw [r.slice]; simp [Program.elem, r.slice]
  have he : P.elem r.S = r.T := by simp [Program.elem, r.slice]
  refine wpList_plain hgd fun K hK => ?_
  unfold Oper.wp
  simp [execOp, ho, hx, hy, run_sliceAt_slice _ _ _ _ _ _ hs, run_slice_h _ _ _ _ _ hs _ _ (Int.natCast_nonneg k) (Int.ofNat_le.2 hk), he, sizeOf, typeInfo, h1, h3, Result.andThen]
  exact hK _ _ (h _ rfl)
theorem wpl_sliceLo {ao : Option Addr} {n cap k : Nat} {x y : Operand} (hgd : o.guard = none) (ho : o.op = .slice r.S x (some y) none none) (hx : a.eval x = .slice ao n cap) {zk : Int} (hy : a.eval y = .int .i64 zk) (hzk : zk = (k : Int)) (hk : k ≤ n)
    (h : ∀ u, u = sliced ao k n cap r.k → wpList P ops Q rest (a.put o.dst u) w) : wpList P ops Q (o :: rest) a w := by
  subst hzk
  obtain ⟨i0, z, b, h1, h2, h3, h4, h5, h6⟩ := r.info
  have hs : P.underlying r.S = some (.slice (P.elem r.S)) := by rw [r.slice]; simp [Program.elem, r.slice]
  have he : P.elem r.S = r.T := by simp [Program.elem, r.slice]
  refine wpList_plain hgd fun K hK => ?_
  unfold Oper.wp
  simp [execOp, ho, hx, hy, run_sliceAt_slice _ _ _ _ _ _ hs, run_slice_l _ _ _ _ _ hs _ _ (Int.natCast_nonneg k) (Int.ofNat_le.2 hk), he, sizeOf, typeInfo, h1, h3, Result.andThen]
  exact hK _ _ (h _ rfl)
theorem wpl_noneR (hgd : o.guard = none) (ho : o.op = .buildSlice r.S 0 #[])
    (h : wpList P ops Q rest (a.put o.dst (.slice (some ⟨w.heap.size, 0, none⟩) 0 0)) (w.alloc (.cells #[] r.T))) : wpList P ops Q (o :: rest) a w := by
  refine wpList_plain hgd fun K hK => ?_
  unfold Oper.wp
  simp [execOp, ho, run_noneR, Result.andThen]
  exact hK _ _ h
end
end
end Go.Proofs.YteioacpfphigjaaGreat
end

section
namespace Go.Proofs.YteioacpfphigjaaGreat
open Go.RowKit Go.Maps
set_option linter.unusedVariables false
set_option linter.unusedSimpArgs false

section
variable {P : Program} {α : Type} {r : RowTy P α} {w : World} {ops : Array Oper} {rest : List Oper} {o : Oper} {a : Act} {Q : Exit → Act → World → Prop}
theorem wpl_allocR {ty : TypeId} (ht : ty = r.T) (hgd : o.guard = none) (ho : o.op = .alloc ty)
    (h : ∀ C : Array Value, C.size = r.k → wpList P ops Q rest (a.put o.dst (.pointer (some ⟨w.heap.size, 0, none⟩))) (w.alloc (.cells C ty))) : wpList P ops Q (o :: rest) a w := by
  subst ht
  obtain ⟨i0, z, b, hi, hz0, h3, h4, _⟩ := r.info
  refine wpList_plain hgd fun K hK => ?_
  have := h z h4
  unfold Oper.wp execOp
  simp [ho, Instr.alloc, zeroValue, typeInfo, hi, hz0, newVar, newRow, Value.cells, go_sem]
  exact hK _ _ this
theorem run_storeR {b : Nat} {t : α} {C : Array Value} (hh : w.heap[b]? = some (.cells C r.T (0, 0))) (hC : C.size = r.k) : (Instr.storeAt r.T (.pointer (some ⟨b, 0, none⟩)) (.agg (r.f t).toArray)).run P w = .ok () (w.setRow b (r.f t).toArray) := by
  simp only [Instr.storeAt, Instr.sureAddr, Sem.run_bind, Sem.run_pure, Result.andThen_ok, run_storeVar_row w b r.T r.T C (r.f t).toArray hh (by rw [List.size_toArray, r.len]; exact r.sizeT) (by simp [r.len, hC]) (by rw [Array.all_eq_true_iff_forall_mem]; intro u hu; exact r.one t u (by simpa using hu))]
theorem wpl_storeR {ty : TypeId} {b : Nat} {t : α} {C : Array Value} (x y : Operand) (ht : ty = r.T) (hgd : o.guard = none) (ho : o.op = .store ty x y) (hx : a.eval x = .pointer (some ⟨b, 0, none⟩)) (hy : a.eval y = .agg (r.f t).toArray) (hh : w.heap[b]? = some (.cells C ty (0, 0))) (hC : C.size = r.k)
    (h : wpList P ops Q rest (a.put o.dst undef) (w.setRow b (r.f t).toArray)) : wpList P ops Q (o :: rest) a w := by
  subst ht
  refine wpList_plain hgd fun K hK => ?_
  unfold Oper.wp execOp
  simp only [ho, hx, hy, Sem.run_bind, Sem.run_pure, run_storeR hh hC, Result.andThen_ok]
  exact hK _ _ h
theorem run_varR {b : Nat} {t : α} (hr : w.rangeAt b 0 (r.f t)) : (loadVar r.T ⟨b, 0, none⟩).run P w = .ok (.agg (r.f t).toArray) w := by
  obtain ⟨d, h1, h2⟩ := r.row
  exact run_loadVar_mid w b 0 r.T (r.f t) d hr h1 h2 (by rw [r.len]; exact r.sizeT)
/-- What is handed back lies in a place of its own, and beside it a number. -/
theorem results_R2 {fn : Func} {p q : Tmp} (hf : fn.results = #[.cell p r.T, .tmp q]) {tmps : Array Value} {b : Nat} {t : α} {u : Value} (hp : tmps.getD p undef = .pointer (some ⟨b, 0, none⟩)) (hq : tmps.getD q undef = u) (hr : w.rangeAt b 0 (r.f t)) :
    (results fn tmps).run P w = .ok (.tuple #[.agg (r.f t).toArray, u]) w := by
  have hp' : tmps[p]?.getD undef = .pointer (some ⟨b, 0, none⟩) := by simpa using hp
  have hq' : tmps[q]?.getD undef = u := by simpa using hq
  unfold results
  rw [hf]
  simp [Array.mapM_eq_mapM_toList, hp', hq', asAddr, Sem.run_bind, run_varR hr, Result.andThen]
theorem results_R1 {fn : Func} {p : Tmp} (hf : fn.results = #[.cell p r.T]) {tmps : Array Value} {b : Nat} {t : α} (hp : tmps.getD p undef = .pointer (some ⟨b, 0, none⟩)) (hr : w.rangeAt b 0 (r.f t)) :
    (results fn tmps).run P w = .ok (.agg (r.f t).toArray) w := by
  have hp' : tmps[p]?.getD undef = .pointer (some ⟨b, 0, none⟩) := by simpa using hp
  unfold results
  rw [hf]
  simp [Array.mapM_eq_mapM_toList, hp', asAddr, Sem.run_bind, run_varR hr, Result.andThen]
end
section
variable {P : Program} {α : Type} {r : RowTy P α} {w : World} {ops : Array Oper} {rest : List Oper} {o : Oper} {a : Act} {Q : Exit → Act → World → Prop} {F : Fence} {nF : Nat} {v u : Value} {xs ys : List α} {B : Nat}
theorem wplIn_appsR {s x : Operand} (hgd : o.guard = none) (ho : o.op = .call { callee := .builtin .append, args := #[s, x], argTypes := #[r.S, r.S] }) (hs : a.eval s = v) (hx : a.eval x = u)
    (hown : OwnR r B v xs w) (hr : RdR r w u ys) (hlen : xs.length + ys.length ≤ 1000000) (hB : B ≤ w.heap.size)
    (h : ∀ v' w', OwnR r B v' (xs ++ ys) w' → w.grownBy w' v.ownBlock → (v'.ownBlock = v.ownBlock ∨ v'.ownBlock = some w.heap.size) → wpListIn F nF P ops Q rest (a.put o.dst v') w') : wpListIn F nF P ops Q (o :: rest) a w := by
  obtain ⟨v', w', hrun, h1, h2, h3⟩ := run_appsR hown hr hlen hB o.type
  refine wpListIn_plain hgd fun K hK => ?_
  unfold Oper.wpIn
  refine ⟨by simp [Oper.about, ho, resolve, Target.leads, Sem.run_pure], ?_⟩
  rw [Oper.semAt_plain F _ _ (by rw [ho]; intro c hc'; cases hc')]
  simp [execOp, ho, resolve, invoke, builtin, hs, hx, hrun, Result.andThen]
  exact hK _ _ (h v' w' h1 h2 h3)
end
end Go.Proofs.YteioacpfphigjaaGreat
end

section
namespace Go.Proofs.YteioacpfphigjaaGreat
open Go.RowKit
set_option linter.unusedVariables false

theorem cvRet_int {k : IntKind} {a b : Int} (h : a = b) : Ending.returned (.int k a) = .returned (.int k b) := by rw [h]
theorem cvRet_bool {a b : Bool} (h : a = b) : Ending.returned (.bool a) = .returned (.bool b) := by rw [h]
theorem mul_bd {a b : Int} {A B : Int} (h0 : 0 ≤ a) (h1 : a ≤ A) (h2 : 0 ≤ b) (h3 : b ≤ B) (hA : 0 ≤ A) : 0 ≤ a * b ∧ a * b ≤ A * B :=
  ⟨Int.mul_nonneg h0 h2, Int.mul_le_mul h1 h3 h2 hA⟩
theorem bcell {W w1 : World} (hb : Below W.heap.size W w1) : (∀ b o, b < W.heap.size → w1.cell? ⟨b, o, none⟩ = W.cell? ⟨b, o, none⟩) ∧ (∀ b o, b < W.heap.size → w1.frozen? ⟨b, o, none⟩ = W.frozen? ⟨b, o, none⟩) :=
  ⟨fun b o h => hb.cell (p := ⟨b, o, none⟩) h, fun b o h => hb.frozen (p := ⟨b, o, none⟩) h⟩
theorem below_box {w w1 : World} {o : Obj} (h : Below (w.alloc o).heap.size (w.alloc o) w1) : Below w.heap.size w w1 :=
  ((Below.refl _ _).alloc (Nat.le_refl _) o).trans (h.mono (by simp))
theorem below_dn {B : Nat} {a w : World} (h : Below B a w) (n : Nat) : Below B a (w.drewN n) := h.trans ⟨rfl, rfl, rfl, Nat.le_refl _, fun _ _ => rfl⟩

theorem below_new {w0 w : World} (h : Below w0.heap.size w0 w) (o : Obj) : Below w0.heap.size w0 (w.alloc o) := h.alloc h.size o

def inB (n b : Int) : Bool := decide (0 ≤ n) && decide (n ≤ b)
theorem inB_out {n b : Int} (h : inB n b = true) : 0 ≤ n ∧ n ≤ b := by simpa [inB] using h
def withinB (n l m : Int) : Bool := decide (l ≤ n) && decide (n ≤ m)
theorem withinB_out {n l m : Int} (h : withinB n l m = true) : l ≤ n ∧ n ≤ m := by simpa [withinB] using h

def votesI (n level : Int) : Int := if level = 0 then n / 10 else n * level
def periodI (level period : Int) : Int := if level = 0 then 0 else period * 2 ^ (level - 1).toNat

theorem cvWithin (n l m : Int) (w : World) :
    Calls Tryz.prog 24 #[.int .i64 n, .int .i64 l, .int .i64 m] w fun e w' => e = .returned (.bool (withinB n l m)) ∧ w = w' := by
  by_cases h0 : l ≤ n
  · go_enter Tryz.func24, Tryz.ntmps24
    go_wp2
    go_ret
    exact ⟨cvRet_bool (by simp [withinB, h0]), rfl⟩
  · go_enter Tryz.func24, Tryz.ntmps24
    go_wp2
    go_ret
    exact ⟨cvRet_bool (by simp [withinB]; omega), rfl⟩

theorem cvBalance (n : Int) (w : World) :
    Calls Tryz.prog 22 #[.int .i64 n] w fun e w' => e = .returned (.bool (withinB n 0 1073741824)) ∧ w = w' := by
  go_enter Tryz.func22, Tryz.ntmps22
  go_wp2_with (go_at_call 24; refine (cvWithin _ _ _ _).mono ?_; rintro e w' ⟨rfl, rfl⟩)
  go_ret
  exact ⟨rfl, rfl⟩

abbrev vote (k : Int) (aye : Bool) (l a n s : Int) : Value := .agg #[.int .i64 k, .bool aye, .int .i64 l, .int .i64 a, .int .i64 n, .int .i64 s]
abbrev weight (v c : Int) : Value := .agg #[.int .i64 v, .int .i64 c]
abbrev tally (a n s : Int) : Value := .agg #[.int .i64 a, .int .i64 n, .int .i64 s]

def shapedB (k : Int) (aye : Bool) (l n s : Int) : Bool :=
  if k = 1 then withinB l 0 6 && (n == 0) && (s == 0)
  else if k = 2 then !aye && (l == 0) && (s == 0)
  else if k = 3 then !aye && (l == 0)
  else false
def voteB (k : Int) (aye : Bool) (l a n s : Int) : Bool :=
  shapedB k aye l n s && withinB a 0 1073741824 && withinB n 0 1073741824 && withinB s 0 1073741824 && withinB (a + n + s) 0 1073741824

end Go.Proofs.YteioacpfphigjaaGreat
end

section
namespace Go.Proofs.YteioacpfphigjaaGreat
open Go.RowKit
set_option linter.unusedVariables false

def ratioI (a b : Int) : Int := if b = 0 then 0 else min (a * 1000000000 / b) 1000000000

theorem div_le_self' {a b : Int} (ha : 0 ≤ a) (hb : 0 < b) : 0 ≤ a / b ∧ a / b ≤ a :=
  ⟨Int.ediv_nonneg ha (by omega), by
    have h1 := Int.mul_ediv_add_emod a b
    have h2 := Int.emod_nonneg a (show b ≠ 0 by omega)
    have h3 := Int.ediv_nonneg ha (show 0 ≤ b by omega)
    have h4 : 1 * (a / b) ≤ b * (a / b) := Int.mul_le_mul_of_nonneg_right (by omega) h3
    omega⟩

theorem per_Ratio (a b : Int) (w : World) (h0 : 0 ≤ a) (h1 : a ≤ 8589934592) (h2 : 0 ≤ b) (h3 : b ≤ 8589934592) :
    Calls Tryz.prog 100 #[.int .i64 a, .int .i64 b] w fun e w' => e = .returned (.int .i64 (ratioI a b)) ∧ w = w' := by
  by_cases hb : b = 0
  · subst hb
    go_enter Tryz.func100, Tryz.ntmps100
    go_wp2
    go_ret
    exact ⟨rfl, rfl⟩
  · have hb1 : 0 < b := by omega
    obtain ⟨d0, d1⟩ := div_le_self' (a := a * 1000000000) (b := b) (by omega) hb1
    have e : ratioI a b = min (a * 1000000000 / b) 1000000000 := if_neg hb
    have E := Lib.hid e; clear e
    go_enter Tryz.func100, Tryz.ntmps100
    go_wp2
    all_goals
      go_ret
      rw [E.out]
      exact ⟨cvRet_int (by omega), rfl⟩

def fallsB (a b c : Int) : Bool := withinB a 0 1000000000 && withinB b 0 a && withinB c 1 1000000000
def isB (k a b c d : Int) : Bool :=
  if k = 1 then fallsB a b c && (d == 0)
  else if k = 2 then fallsB a b c && withinB d 1 1000000000
  else if k = 3 then withinB a 0 1000000000 && withinB b 1 1000000000 && withinB c 0 1000000000 && (d == 0)
  else false

def heldI (n : Int) : Int := min (max n 0) 1000000000
abbrev curve (k a b c d : Int) : Value := .agg #[.int .i64 k, .int .i64 a, .int .i64 b, .int .i64 c, .int .i64 d]

theorem ref4_in (n l m : Int) (w : World) :
    Calls Tryz.prog 63 #[.int .i64 n, .int .i64 l, .int .i64 m] w fun e w' => e = .returned (.bool (withinB n l m)) ∧ w = w' := by
  by_cases h0 : l ≤ n
  · go_enter Tryz.func63, Tryz.ntmps63
    go_wp2
    go_ret
    exact ⟨cvRet_bool (by simp [withinB, h0]), rfl⟩
  · go_enter Tryz.func63, Tryz.ntmps63
    go_wp2
    go_ret
    exact ⟨cvRet_bool (by simp [withinB]; omega), rfl⟩

theorem per_within (n l : Int) (w : World) :
    Calls Tryz.prog 62 #[.int .i64 n, .int .i64 l] w fun e w' => e = .returned (.bool (withinB n l 1000000000)) ∧ w = w' := by
  go_enter Tryz.func62, Tryz.ntmps62
  go_wp2_with (go_at_call 24; refine (cvWithin _ _ _ _).mono ?_; rintro e w' ⟨rfl, rfl⟩)
  go_ret
  exact ⟨rfl, rfl⟩

theorem per_held (n : Int) (w : World) :
    Calls Tryz.prog 125 #[.int .i64 n] w fun e w' => e = .returned (.int .i64 (heldI n)) ∧ w = w' := by
  go_enter Tryz.func125, Tryz.ntmps125
  go_wp2
  all_goals
    go_ret
    exact ⟨cvRet_int (by unfold heldI; omega), rfl⟩

theorem per_falls (k a b c d : Int) (w : World) :
    Calls Tryz.prog 61 #[curve k a b c d] w fun e w' => e = .returned (.bool (fallsB a b c)) ∧ Below w.heap.size w w' := by
  go_enter Tryz.func61, Tryz.ntmps61
  go_wp2_with (first | (go_at_call 24; refine (cvWithin _ _ _ _).mono ?_; rintro e w' ⟨rfl, rfl⟩) | (go_at_call 62; refine (per_within _ _ _).mono ?_; rintro e w' ⟨rfl, rfl⟩))
  all_goals
    go_ret
    exact ⟨cvRet_bool (by simp [fallsB, *]), (Below.refl _ _).alloc (Nat.le_refl _) _⟩

theorem per_Is (k a b c d : Int) (w : World) :
    Calls Tryz.prog 42 #[curve k a b c d] w fun e w' => e = .returned (.bool (isB k a b c d)) ∧ Below w.heap.size w w' := by
  by_cases k1 : k = 1
  · subst k1
    go_enter Tryz.func42, Tryz.ntmps42
    go_wp2_with (go_at_call 61; refine (per_falls _ _ _ _ _ _).mono ?_; rintro e w' ⟨rfl, hb⟩; obtain ⟨hc, hf⟩ := bcell hb)
    all_goals
      go_ret
      exact ⟨cvRet_bool (by simp [isB, *]), below_box hb⟩
  · by_cases k2 : k = 2
    · subst k2
      go_enter Tryz.func42, Tryz.ntmps42
      go_wp2_with (first | (go_at_call 61; refine (per_falls _ _ _ _ _ _).mono ?_; rintro e w' ⟨rfl, hb⟩; obtain ⟨hc, hf⟩ := bcell hb) | (go_at_call 62; refine (per_within _ _ _).mono ?_; rintro e w' ⟨rfl, rfl⟩))
      all_goals
        go_ret
        exact ⟨cvRet_bool (by simp [isB, *]), below_box hb⟩
    · by_cases k3 : k = 3
      · subst k3
        go_enter Tryz.func42, Tryz.ntmps42
        go_wp2_with (go_at_call 62; refine (per_within _ _ _).mono ?_; rintro e w' ⟨rfl, rfl⟩)
        all_goals
          go_ret
          exact ⟨cvRet_bool (by simp [isB, *]), (Below.refl _ _).alloc (Nat.le_refl _) _⟩
      · go_enter Tryz.func42, Tryz.ntmps42
        go_wp2
        go_ret
        exact ⟨cvRet_bool (by simp [isB, *]), (Below.refl _ _).alloc (Nat.le_refl _) _⟩

theorem ref4_Is (k a b c d : Int) (w : World) :
    Calls Tryz.prog 44 #[curve k a b c d] w fun e w' => e = .returned (.bool (isB k a b c d)) ∧ Below w.heap.size w w' := by
  by_cases k1 : k = 1
  · subst k1
    go_enter Tryz.func44, Tryz.ntmps44
    go_wp2_with (go_at_call 63; refine (ref4_in _ _ _ _).mono ?_; rintro e w' ⟨rfl, rfl⟩)
    all_goals
      go_ret
      exact ⟨cvRet_bool (by simp [isB, fallsB, *]), (Below.refl _ _).alloc (Nat.le_refl _) _⟩
  · by_cases k2 : k = 2
    · subst k2
      go_enter Tryz.func44, Tryz.ntmps44
      go_wp2_with (go_at_call 63; refine (ref4_in _ _ _ _).mono ?_; rintro e w' ⟨rfl, rfl⟩)
      all_goals
        go_ret
        exact ⟨cvRet_bool (by simp [isB, fallsB, *]), (Below.refl _ _).alloc (Nat.le_refl _) _⟩
    · by_cases k3 : k = 3
      · subst k3
        go_enter Tryz.func44, Tryz.ntmps44
        go_wp2_with (go_at_call 63; refine (ref4_in _ _ _ _).mono ?_; rintro e w' ⟨rfl, rfl⟩)
        all_goals
          go_ret
          exact ⟨cvRet_bool (by simp [isB, *]), (Below.refl _ _).alloc (Nat.le_refl _) _⟩
      · go_enter Tryz.func44, Tryz.ntmps44
        go_wp2
        go_ret
        exact ⟨cvRet_bool (by simp [isB, *]), (Below.refl _ _).alloc (Nat.le_refl _) _⟩

/-- The threshold of a curve that may be. -/
def atI (k a b c d x : Int) : Int :=
  if k = 1 then (if heldI x ≥ c then b else a - (a - b) * heldI x / c)
  else if k = 2 then max (a - c * (heldI x / d)) b
  else heldI (a * 1000000000 / (heldI x + b) - c)

theorem held_bd (x : Int) : 0 ≤ heldI x ∧ heldI x ≤ 1000000000 := by unfold heldI; omega

theorem is1_out {a b c d : Int} (h : isB 1 a b c d = true) : (0 ≤ a ∧ a ≤ 1000000000) ∧ (0 ≤ b ∧ b ≤ a) ∧ (1 ≤ c ∧ c ≤ 1000000000) ∧ d = 0 := by
  simpa [isB, fallsB, withinB, and_assoc] using h
theorem is2_out {a b c d : Int} (h : isB 2 a b c d = true) : (0 ≤ a ∧ a ≤ 1000000000) ∧ (0 ≤ b ∧ b ≤ a) ∧ (1 ≤ c ∧ c ≤ 1000000000) ∧ (1 ≤ d ∧ d ≤ 1000000000) := by
  simpa [isB, fallsB, withinB, and_assoc] using h
theorem is3_out {a b c d : Int} (h : isB 3 a b c d = true) : (0 ≤ a ∧ a ≤ 1000000000) ∧ (1 ≤ b ∧ b ≤ 1000000000) ∧ (0 ≤ c ∧ c ≤ 1000000000) ∧ d = 0 := by
  simpa [isB, withinB, and_assoc] using h

theorem at1_end {a b c d x : Int} (h : c ≤ heldI x) : atI 1 a b c d x = b := by simp [atI, h]
theorem at1_mid {a b c d x : Int} (h : heldI x < c) : atI 1 a b c d x = a - (a - b) * heldI x / c := by simp [atI, Int.not_le.2 h]
theorem at2_eq {a b c d x : Int} : atI 2 a b c d x = max (a - c * (heldI x / d)) b := by simp [atI]
theorem at3_eq {a b c d x : Int} : atI 3 a b c d x = heldI (a * 1000000000 / (heldI x + b) - c) := by simp [atI]

theorem per_At1 (a b c d x : Int) (w : World) (h : isB 1 a b c d = true) :
    Calls Tryz.prog 102 #[curve 1 a b c d, .int .i64 x] w fun e w' => e = .returned (.int .i64 (atI 1 a b c d x)) ∧ Below w.heap.size w w' := by
  obtain ⟨⟨a0, a1⟩, ⟨b0, b1⟩, ⟨c0, c1⟩, -⟩ := is1_out h
  obtain ⟨y0, y1⟩ := held_bd x
  by_cases hx : c ≤ heldI x
  · go_enter Tryz.func102, Tryz.ntmps102
    go_wp2_with (first | (go_at_call 42; refine (per_Is _ _ _ _ _ _).mono ?_; rintro e w' ⟨rfl, hb⟩; obtain ⟨hc, hf⟩ := bcell hb) | (go_at_call 125; refine (per_held _ _).mono ?_; rintro e w' ⟨rfl, rfl⟩))
    go_ret
    exact ⟨cvRet_int (at1_end hx).symm, below_box hb⟩
  · obtain ⟨m0, m1⟩ := mul_bd (a := a - b) (b := heldI x) (by omega) (show a - b ≤ 1000000000 by omega) y0 y1 (by omega)
    obtain ⟨d0, d1⟩ := div_le_self' (a := (a - b) * heldI x) (b := c) m0 (by omega)
    go_enter Tryz.func102, Tryz.ntmps102
    go_wp2_with (first | (go_at_call 42; refine (per_Is _ _ _ _ _ _).mono ?_; rintro e w' ⟨rfl, hb⟩; obtain ⟨hc, hf⟩ := bcell hb) | (go_at_call 125; refine (per_held _ _).mono ?_; rintro e w' ⟨rfl, rfl⟩))
    go_quiet (fail)
    go_wp2
    go_ret
    exact ⟨cvRet_int (at1_mid hx).symm, below_box (below_dn hb _)⟩

theorem per_At2 (a b c d x : Int) (w : World) (h : isB 2 a b c d = true) :
    Calls Tryz.prog 102 #[curve 2 a b c d, .int .i64 x] w fun e w' => e = .returned (.int .i64 (atI 2 a b c d x)) ∧ Below w.heap.size w w' := by
  obtain ⟨⟨a0, a1⟩, ⟨b0, b1⟩, ⟨c0, c1⟩, d0, d1⟩ := is2_out h
  obtain ⟨y0, y1⟩ := held_bd x
  obtain ⟨q0, q1⟩ := div_le_self' (a := heldI x) (b := d) y0 (by omega)
  obtain ⟨m0, m1⟩ := mul_bd (a := c) (b := heldI x / d) (by omega) c1 q0 (Int.le_trans q1 y1) (by omega)
  go_enter Tryz.func102, Tryz.ntmps102
  go_wp2_with (first | (go_at_call 42; refine (per_Is _ _ _ _ _ _).mono ?_; rintro e w' ⟨rfl, hb⟩; obtain ⟨hc, hf⟩ := bcell hb) | (go_at_call 125; refine (per_held _ _).mono ?_; rintro e w' ⟨rfl, rfl⟩))
  go_quiet (fail)
  all_goals go_wp2
  all_goals
    go_ret
    exact ⟨cvRet_int (by rw [at2_eq] <;> omega), below_box (below_dn hb _)⟩

theorem per_At3 (a b c d x : Int) (w : World) (h : isB 3 a b c d = true) :
    Calls Tryz.prog 102 #[curve 3 a b c d, .int .i64 x] w fun e w' => e = .returned (.int .i64 (atI 3 a b c d x)) ∧ Below w.heap.size w w' := by
  obtain ⟨⟨a0, a1⟩, ⟨b0, b1⟩, ⟨c0, c1⟩, -⟩ := is3_out h
  obtain ⟨y0, y1⟩ := held_bd x
  obtain ⟨q0, q1⟩ := div_le_self' (a := a * 1000000000) (b := heldI x + b) (by omega) (by omega)
  go_enter Tryz.func102, Tryz.ntmps102
  go_wp2_with (first | (go_at_call 42; refine (per_Is _ _ _ _ _ _).mono ?_; rintro e w' ⟨rfl, hb⟩; obtain ⟨hc, hf⟩ := bcell hb) | (go_at_call 125; refine (per_held _ _).mono ?_; rintro e w' ⟨rfl, rfl⟩))
  go_quiet ((go_at_call 125; exact Calls.quiet_of_same ((per_held _ _).mono fun e w' h => ⟨h.1, h.2.symm⟩)))
  all_goals go_wp2
  all_goals
    go_ret
    exact ⟨cvRet_int at3_eq.symm, below_box (below_dn hb _)⟩

theorem per_At (k a b c d x : Int) (w : World) (h : isB k a b c d = true) :
    Calls Tryz.prog 102 #[curve k a b c d, .int .i64 x] w fun e w' => e = .returned (.int .i64 (atI k a b c d x)) ∧ Below w.heap.size w w' := by
  by_cases k1 : k = 1
  · subst k1; exact per_At1 a b c d x w h
  by_cases k2 : k = 2
  · subst k2; exact per_At2 a b c d x w h
  by_cases k3 : k = 3
  · subst k3; exact per_At3 a b c d x w h
  · simp [isB, k1, k2, k3] at h

end Go.Proofs.YteioacpfphigjaaGreat
end

section
namespace Go.Proofs.YteioacpfphigjaaGreat
open Go.RowKit

theorem held_cases (x : Int) : (x < 0 ∧ heldI x = 0) ∨ (1000000000 < x ∧ heldI x = 1000000000) ∨ (0 ≤ x ∧ x ≤ 1000000000 ∧ heldI x = x) := by unfold heldI; omega

theorem ratio_bd {a b : Int} (h0 : 0 ≤ a) (h2 : 0 ≤ b) : 0 ≤ ratioI a b ∧ ratioI a b ≤ 1000000000 := by
  unfold ratioI; split
  · omega
  · have := Int.ediv_nonneg (show 0 ≤ a * 1000000000 by omega) h2; omega
theorem ratio_iff {a b t : Int} (hb : 0 < b) (ht : t ≤ 1000000000) : t ≤ ratioI a b ↔ t * b ≤ a * 1000000000 := by
  unfold ratioI; rw [if_neg (by omega), ← Int.le_ediv_iff_mul_le hb]; omega
theorem ratio_self {n : Int} (h : 0 ≤ n) : ratioI n n = if 0 < n then 1000000000 else 0 := by
  unfold ratioI
  by_cases hn : n = 0
  · subst hn; simp
  · have : n * 1000000000 / n = 1000000000 := Int.mul_ediv_cancel_left _ hn
    rw [if_neg hn, if_pos (by omega), this]; omega

theorem held_mono {x y : Int} (h : x ≤ y) : heldI x ≤ heldI y := by unfold heldI; omega

theorem lin_bd {a b c h : Int} (hb : b ≤ a) (hc : 0 < c) (h0 : 0 ≤ h) (h1 : h ≤ c) : 0 ≤ (a - b) * h / c ∧ (a - b) * h / c ≤ a - b := by
  have m0 := Int.mul_nonneg (show 0 ≤ a - b by omega) h0
  have m1 := Int.mul_le_mul_of_nonneg_left h1 (show 0 ≤ a - b by omega)
  exact ⟨Int.ediv_nonneg m0 (by omega), Int.ediv_le_of_le_mul hc m1⟩

theorem div_anti {A y z : Int} (hA : 0 ≤ A) (hy : 0 < y) (h : y ≤ z) : A / z ≤ A / y := by
  apply Int.le_ediv_of_mul_le hy
  have h1 := Int.ediv_nonneg hA (show 0 ≤ z by omega)
  have h2 := Int.mul_le_mul_of_nonneg_left h h1
  have h3 := Int.ediv_mul_le A (show z ≠ 0 by omega)
  omega

theorem is_kind {k a b c d : Int} (h : isB k a b c d = true) : k = 1 ∨ k = 2 ∨ k = 3 := by
  by_cases k1 : k = 1
  · exact .inl k1
  by_cases k2 : k = 2
  · exact .inr (.inl k2)
  by_cases k3 : k = 3
  · exact .inr (.inr k3)
  · simp [isB, k1, k2, k3] at h

theorem at_bd {k a b c d : Int} (h : isB k a b c d = true) (x : Int) : 0 ≤ atI k a b c d x ∧ atI k a b c d x ≤ 1000000000 := by
  obtain ⟨y0, y1⟩ := held_bd x
  rcases is_kind h with rfl | rfl | rfl
  · obtain ⟨⟨a0, a1⟩, ⟨b0, b1⟩, ⟨c0, c1⟩, -⟩ := is1_out h
    by_cases hx : c ≤ heldI x
    · rw [at1_end hx]; omega
    · have := lin_bd (h := heldI x) b1 (show 0 < c by omega) y0 (by omega)
      rw [at1_mid (by omega)]; omega
  · obtain ⟨⟨a0, a1⟩, ⟨b0, b1⟩, ⟨c0, c1⟩, d0, d1⟩ := is2_out h
    have q0 := Int.ediv_nonneg y0 (show 0 ≤ d by omega)
    have m0 := Int.mul_nonneg (show 0 ≤ c by omega) q0
    rw [at2_eq]; omega
  · rw [at3_eq]; exact held_bd _

theorem at_falls {k a b c d : Int} (h : isB k a b c d = true) {x y : Int} (hxy : x ≤ y) : atI k a b c d y ≤ atI k a b c d x := by
  obtain ⟨x0, x1⟩ := held_bd x
  obtain ⟨y0, y1⟩ := held_bd y
  have hm := held_mono hxy
  rcases is_kind h with rfl | rfl | rfl
  · obtain ⟨⟨a0, a1⟩, ⟨b0, b1⟩, ⟨c0, c1⟩, -⟩ := is1_out h
    by_cases hx : c ≤ heldI x
    · rw [at1_end hx, at1_end (by omega)]; omega
    · have l1 := lin_bd (h := heldI x) b1 (show 0 < c by omega) x0 (by omega)
      rw [at1_mid (show heldI x < c by omega)]
      by_cases hy : c ≤ heldI y
      · rw [at1_end hy]; omega
      · rw [at1_mid (show heldI y < c by omega)]
        have := Int.ediv_le_ediv (show 0 < c by omega) (Int.mul_le_mul_of_nonneg_left hm (show 0 ≤ a - b by omega))
        omega
  · obtain ⟨⟨a0, a1⟩, ⟨b0, b1⟩, ⟨c0, c1⟩, d0, d1⟩ := is2_out h
    have q := Int.ediv_le_ediv (show 0 < d by omega) hm
    have m := Int.mul_le_mul_of_nonneg_left q (show 0 ≤ c by omega)
    rw [at2_eq, at2_eq]; omega
  · obtain ⟨⟨a0, a1⟩, ⟨b0, b1⟩, ⟨c0, c1⟩, -⟩ := is3_out h
    have q := div_anti (A := a * 1000000000) (by omega) (show 0 < heldI x + b by omega) (show heldI x + b ≤ heldI y + b by omega)
    rw [at3_eq, at3_eq]; exact held_mono (by omega)

/-- A curve lies in the first block behind w0's; what was there in w0 is as it was. -/
structure CBoxed (w0 : World) (k a b' c d : Int) (w : World) : Prop where
  c0 : w.cell? ⟨w0.heap.size, 0, none⟩ = some (.int .i64 k)
  c1 : w.cell? ⟨w0.heap.size, 1, none⟩ = some (.int .i64 a)
  c2 : w.cell? ⟨w0.heap.size, 2, none⟩ = some (.int .i64 b')
  c3 : w.cell? ⟨w0.heap.size, 3, none⟩ = some (.int .i64 c)
  c4 : w.cell? ⟨w0.heap.size, 4, none⟩ = some (.int .i64 d)
  lt : w0.heap.size < w.heap.size
  old : Below w0.heap.size w0 w

theorem CBoxed.all {w0 : World} {k a b' c d : Int} {w : World} (h : CBoxed w0 k a b' c d w) : w.cell? ⟨w0.heap.size, 0, none⟩ = some (.int .i64 k) ∧ w.cell? ⟨w0.heap.size, 1, none⟩ = some (.int .i64 a) ∧ w.cell? ⟨w0.heap.size, 2, none⟩ = some (.int .i64 b') ∧ w.cell? ⟨w0.heap.size, 3, none⟩ = some (.int .i64 c) ∧ w.cell? ⟨w0.heap.size, 4, none⟩ = some (.int .i64 d) := ⟨h.c0, h.c1, h.c2, h.c3, h.c4⟩
theorem CBoxed.below {w0 : World} {k a b' c d : Int} {w w' : World} (h : CBoxed w0 k a b' c d w) (hb : Below w.heap.size w w') : CBoxed w0 k a b' c d w' := by
  obtain ⟨hc, _⟩ := bcell hb
  exact ⟨(hc _ _ h.lt).trans h.c0, (hc _ _ h.lt).trans h.c1, (hc _ _ h.lt).trans h.c2, (hc _ _ h.lt).trans h.c3, (hc _ _ h.lt).trans h.c4, Nat.lt_of_lt_of_le h.lt hb.size, h.old.trans (hb.mono h.old.size)⟩
theorem CBoxed.drew {w0 : World} {k a b' c d : Int} {w : World} (h : CBoxed w0 k a b' c d w) : CBoxed w0 k a b' c d w.drew := ⟨h.c0, h.c1, h.c2, h.c3, h.c4, h.lt, h.old.drew⟩
theorem CBoxed.new {k a b' c d : Int} {w : World} {t : TypeId} : CBoxed w k a b' c d (w.alloc (.cells #[.int .i64 k, .int .i64 a, .int .i64 b', .int .i64 c, .int .i64 d] t)) := by
  constructor
  case old => exact (Below.refl _ _).alloc (Nat.le_refl _) _
  all_goals simp

end Go.Proofs.YteioacpfphigjaaGreat
end

section
namespace Go.Proofs.YteioacpfphigjaaGreat
open Go.RowKit
set_option linter.unusedVariables false

/-- A track's numbers, in their order. -/
structure Trk where
  most : Int
  dep : Int
  prep : Int
  dec : Int
  conf : Int
  en : Int
  ak : Int
  aa : Int
  ab : Int
  ac : Int
  ad : Int
  sk : Int
  sa : Int
  sb : Int
  sc : Int
  sd : Int
  cap : Int
  rank : Int

abbrev Trk.cells (t : Trk) : Array Value := #[.int .i64 t.most, .int .i64 t.dep, .int .i64 t.prep, .int .i64 t.dec, .int .i64 t.conf, .int .i64 t.en, .int .i64 t.ak, .int .i64 t.aa, .int .i64 t.ab, .int .i64 t.ac, .int .i64 t.ad, .int .i64 t.sk, .int .i64 t.sa, .int .i64 t.sb, .int .i64 t.sc, .int .i64 t.sd, .int .i64 t.cap, .int .i64 t.rank]
abbrev Trk.val (t : Trk) : Value := .agg t.cells

def trackB (t : Trk) : Bool :=
  withinB t.most 1 12 && withinB t.dep 0 1073741824 && withinB t.cap 0 1073741824 && withinB t.prep 0 1000 && withinB t.conf 0 1000 && withinB t.en 0 1000 && withinB t.dec 1 1000 &&
    isB t.ak t.aa t.ab t.ac t.ad && isB t.sk t.sa t.sb t.sc t.sd && withinB t.rank 0 2

/-- A track lies in the first block behind w0's. -/
structure KBox (w0 : World) (t : Trk) (w : World) : Prop where
  c0 : w.cell? ⟨w0.heap.size, 0, none⟩ = some (.int .i64 t.most)
  c1 : w.cell? ⟨w0.heap.size, 1, none⟩ = some (.int .i64 t.dep)
  c2 : w.cell? ⟨w0.heap.size, 2, none⟩ = some (.int .i64 t.prep)
  c3 : w.cell? ⟨w0.heap.size, 3, none⟩ = some (.int .i64 t.dec)
  c4 : w.cell? ⟨w0.heap.size, 4, none⟩ = some (.int .i64 t.conf)
  c5 : w.cell? ⟨w0.heap.size, 5, none⟩ = some (.int .i64 t.en)
  c6 : w.cell? ⟨w0.heap.size, 6, none⟩ = some (.int .i64 t.ak)
  c7 : w.cell? ⟨w0.heap.size, 7, none⟩ = some (.int .i64 t.aa)
  c8 : w.cell? ⟨w0.heap.size, 8, none⟩ = some (.int .i64 t.ab)
  c9 : w.cell? ⟨w0.heap.size, 9, none⟩ = some (.int .i64 t.ac)
  c10 : w.cell? ⟨w0.heap.size, 10, none⟩ = some (.int .i64 t.ad)
  c11 : w.cell? ⟨w0.heap.size, 11, none⟩ = some (.int .i64 t.sk)
  c12 : w.cell? ⟨w0.heap.size, 12, none⟩ = some (.int .i64 t.sa)
  c13 : w.cell? ⟨w0.heap.size, 13, none⟩ = some (.int .i64 t.sb)
  c14 : w.cell? ⟨w0.heap.size, 14, none⟩ = some (.int .i64 t.sc)
  c15 : w.cell? ⟨w0.heap.size, 15, none⟩ = some (.int .i64 t.sd)
  c16 : w.cell? ⟨w0.heap.size, 16, none⟩ = some (.int .i64 t.cap)
  c17 : w.cell? ⟨w0.heap.size, 17, none⟩ = some (.int .i64 t.rank)
  lt : w0.heap.size < w.heap.size
  old : Below w0.heap.size w0 w
theorem KBox.below {w0 : World} {t : Trk} {w w' : World} (h : KBox w0 t w) (hb : Below w.heap.size w w') : KBox w0 t w' := by
  obtain ⟨hc, _⟩ := bcell hb
  exact ⟨(hc _ _ h.lt).trans h.c0, (hc _ _ h.lt).trans h.c1, (hc _ _ h.lt).trans h.c2, (hc _ _ h.lt).trans h.c3, (hc _ _ h.lt).trans h.c4, (hc _ _ h.lt).trans h.c5, (hc _ _ h.lt).trans h.c6, (hc _ _ h.lt).trans h.c7, (hc _ _ h.lt).trans h.c8, (hc _ _ h.lt).trans h.c9,
    (hc _ _ h.lt).trans h.c10, (hc _ _ h.lt).trans h.c11, (hc _ _ h.lt).trans h.c12, (hc _ _ h.lt).trans h.c13, (hc _ _ h.lt).trans h.c14, (hc _ _ h.lt).trans h.c15, (hc _ _ h.lt).trans h.c16, (hc _ _ h.lt).trans h.c17, Nat.lt_of_lt_of_le h.lt hb.size, h.old.trans (hb.mono h.old.size)⟩
theorem KBox.new {t : Trk} {w : World} {T : TypeId} : KBox w t (w.alloc (.cells t.cells T)) := by
  constructor
  case old => exact (Below.refl _ _).alloc (Nat.le_refl _) _
  all_goals simp

theorem track_blocks (n l : Int) (w : World) :
    Calls Tryz.prog 41 #[.int .i64 n, .int .i64 l] w fun e w' => e = .returned (.bool (withinB n l 1000)) ∧ w = w' := by
  go_enter Tryz.func41, Tryz.ntmps41
  go_wp2_with (go_at_call 24; refine (cvWithin _ _ _ _).mono ?_; rintro e w' ⟨rfl, rfl⟩)
  go_ret
  exact ⟨rfl, rfl⟩

theorem ref10_in (n l m : Int) (w : World) :
    Calls Tryz.prog 43 #[.int .i64 n, .int .i64 l, .int .i64 m] w fun e w' => e = .returned (.bool (withinB n l m)) ∧ w = w' := by
  by_cases h0 : l ≤ n
  · go_enter Tryz.func43, Tryz.ntmps43
    go_wp2
    go_ret
    exact ⟨cvRet_bool (by simp [withinB, h0]), rfl⟩
  · go_enter Tryz.func43, Tryz.ntmps43
    go_wp2
    go_ret
    exact ⟨cvRet_bool (by simp [withinB]; omega), rfl⟩

set_option maxHeartbeats 4000000 in
theorem track_Is (t : Trk) (w : World) :
    Calls Tryz.prog 25 #[t.val] w fun e w' => e = .returned (.bool (trackB t)) ∧ Below w.heap.size w w' := by
  go_enter Tryz.func25, Tryz.ntmps25
  go_wp2_with (first | (go_at_call 24; refine (cvWithin _ _ _ _).mono ?_; rintro e w' ⟨rfl, rfl⟩) | (go_at_call 22; refine (cvBalance _ _).mono ?_; rintro e w' ⟨rfl, rfl⟩) | (go_at_call 41; refine (track_blocks _ _ _).mono ?_; rintro e w' ⟨rfl, rfl⟩) | (go_at_call 42; refine (per_Is _ _ _ _ _ _).mono ?_; rintro e w1 ⟨rfl, hb1⟩; first | (have B2 := B1.below hb1; clear hb1; have y17 := B2.c17) | (have B1 := (KBox.new (t := t)).below hb1; clear hb1; have x11 := B1.c11; have x12 := B1.c12; have x13 := B1.c13; have x14 := B1.c14; have x15 := B1.c15; have x16 := B1.c16; have x17 := B1.c17)) | fail)
  all_goals
    go_ret
    exact ⟨cvRet_bool (by simp [trackB, *]), (by first | exact B2.old | exact B1.old | exact below_new (Below.refl _ _) _)⟩

set_option maxHeartbeats 4000000 in
theorem ref10_Is (t : Trk) (w : World) :
    Calls Tryz.prog 32 #[t.val] w fun e w' => e = .returned (.bool (trackB t)) ∧ Below w.heap.size w w' := by
  go_enter Tryz.func32, Tryz.ntmps32
  go_wp2_with (first | (go_at_call 43; refine (ref10_in _ _ _ _).mono ?_; rintro e w' ⟨rfl, rfl⟩) | (go_at_call 44; refine (ref4_Is _ _ _ _ _ _).mono ?_; rintro e w1 ⟨rfl, hb1⟩; first | (have B2 := B1.below hb1; clear hb1; have y17 := B2.c17) | (have B1 := (KBox.new (t := t)).below hb1; clear hb1; have x11 := B1.c11; have x12 := B1.c12; have x13 := B1.c13; have x14 := B1.c14; have x15 := B1.c15; have x16 := B1.c16; have x17 := B1.c17)) | fail)
  all_goals
    go_ret
    exact ⟨cvRet_bool (by simp [trackB, *]), (by first | exact B2.old | exact B1.old | exact below_new (Below.refl _ _) _)⟩

/-- A tally that may be asked. -/
def Fits10 (x y s issued : Int) : Prop := 0 ≤ x ∧ 0 ≤ y ∧ x + y ≤ 8589934592 ∧ 0 ≤ s ∧ s ≤ 8589934592 ∧ 0 ≤ issued ∧ issued ≤ 8589934592

theorem track_Shares (x y s i : Int) (w : World) (h : Fits10 x y s i) :
    Calls Tryz.prog 101 #[tally x y s, .int .i64 i] w fun e w' => e = .returned (.tuple #[.int .i64 (ratioI x (x + y)), .int .i64 (ratioI s i)]) ∧ Below w.heap.size w w' := by
  obtain ⟨x0, y0, xy, s0, s1, i0, i1⟩ := h
  have W1 : IntKind.i64.wrap (x + y) = x + y := IntWalk.i64_in _ (by omega)
  go_enter Tryz.func101, Tryz.ntmps101
  go_wp2_with fail
  go_quiet ((go_at_call 100; exact Calls.quiet_of_same ((per_Ratio _ _ _ (by omega) (by omega) (by omega) (by omega)).mono fun e w' h => ⟨h.1, h.2.symm⟩)))
  go_wp2
  go_ret2
  exact ⟨rfl, below_dn (below_new (Below.refl _ _) _) _⟩

end Go.Proofs.YteioacpfphigjaaGreat
end

section
namespace Go.Proofs.YteioacpfphigjaaGreat
open Go.RowKit
set_option linter.unusedVariables false
set_option linter.unusedSimpArgs false

def trkL (t : Trk) : List Value := t.cells.toList
theorem trkL_ones (t : Trk) : ∀ u ∈ trkL t, u.oneCell' = true := by
  intro u hu
  simp only [trkL, Trk.cells, List.mem_cons, List.not_mem_nil, or_false] at hu
  rcases hu with rfl | rfl | rfl | rfl | rfl | rfl | rfl | rfl | rfl | rfl | rfl | rfl | rfl | rfl | rfl | rfl | rfl | rfl <;> rfl
def trk0 : Trk := ⟨0, 0, 0, 0, 0, 0, 0, 0, 0, 0, 0, 0, 0, 0, 0, 0, 0, 0⟩
theorem trackSize : (Tryz.prog.info? 85).map (fun i => (i.size, i.bytes)) = some (18, 144) := by kernel_rfl
theorem trackZero : (Tryz.prog.info? 85).bind (fun i => i.zero.map (fun z => decide ((match z with | .agg a => a.size | _ => 0) = 18))) = some true := by kernel_rfl
theorem trackInfo : ∃ i0 z b, Tryz.prog.info? 85 = some i0 ∧ i0.zero = some (.agg z) ∧ i0.size = 18 ∧ z.size = 18 ∧ i0.bytes = b ∧ b ≤ 8000 := by
  obtain ⟨i0, hi, hz⟩ := Option.map_eq_some_iff.1 trackSize
  simp only [Prod.mk.injEq] at hz
  have h := trackZero
  rw [hi] at h
  simp only [Option.bind_some, Option.map_eq_some_iff] at h
  obtain ⟨z, h1, h2⟩ := h
  have h3 := of_decide_eq_true h2
  cases z with
  | agg a => exact ⟨i0, a, _, hi, h1, hz.1, h3, hz.2, by decide⟩
  | _ => cases h3
def trkR : RowTy Tryz.prog Trk where
  T := 85
  S := 23
  k := 18
  f := trkL
  len := fun _ => rfl
  one := trkL_ones
  pos := by decide
  small := by decide
  slice := Tryz.underlying23
  info := trackInfo
  row := ⟨_, Tryz.underlying85, rfl⟩
end Go.Proofs.YteioacpfphigjaaGreat
end

section
namespace Go.Proofs.YteioacpfphigjaaGreat
open Go.RowKit
set_option linter.unusedVariables false
set_option linter.unusedSimpArgs false

theorem bound_Within (n a b : Int) (w : World) : Calls Tryz.prog 24 #[.int .i64 n, .int .i64 a, .int .i64 b] w fun e w' => e = .returned (.bool (decide (a ≤ n ∧ n ≤ b))) ∧ w' = w := by
  go_enter Tryz.func24, Tryz.ntmps24
  by_cases c : a ≤ n
  · by_cases d : n ≤ b
    · go_wp2
      exact bodyPost_ret (v := .bool true) (by simp [results, Tryz.results24, go_sem]) rfl ⟨by simp [c, d], rfl⟩
    · have hd : decide (n ≤ b) = false := by simpa using d
      go_wp2
      exact bodyPost_ret (v := .bool false) (by simp [results, Tryz.results24, go_sem]) rfl ⟨by simp <;> omega, rfl⟩
  · have hc : decide (a ≤ n) = false := by simpa using c
    go_wp2
    exact bodyPost_ret (v := .bool false) (by simp [results, Tryz.results24, go_sem]) rfl ⟨by simp <;> omega, rfl⟩
theorem bound_Below (n b : Int) (w : World) : Calls Tryz.prog 81 #[.int .i64 n, .int .i64 b] w fun e w' => e = .returned (.bool (decide (0 ≤ n ∧ n < b))) ∧ w' = w := by
  go_enter Tryz.func81, Tryz.ntmps81
  by_cases c : 0 ≤ n
  · by_cases d : n < b
    · go_wp2
      exact bodyPost_ret (v := .bool true) (by simp [results, Tryz.results81, go_sem]) rfl ⟨by simp [c, d], rfl⟩
    · have hd : decide (n < b) = false := by simpa using d
      go_wp2
      exact bodyPost_ret (v := .bool false) (by simp [results, Tryz.results81, go_sem]) rfl ⟨by simp <;> omega, rfl⟩
  · have hc : decide (0 ≤ n) = false := by simpa using c
    go_wp2
    exact bodyPost_ret (v := .bool false) (by simp [results, Tryz.results81, go_sem]) rfl ⟨by simp <;> omega, rfl⟩
theorem bound_Account (n : Int) (w : World) : Calls Tryz.prog 60 #[.int .i64 n] w fun e w' => e = .returned (.bool (decide (0 ≤ n ∧ n < 10))) ∧ w' = w := by
  go_enter Tryz.func60, Tryz.ntmps60
  go_wp2_with (first | (go_at_call 81; refine (bound_Below n 10 _).mono ?_; rintro e w' ⟨rfl, rfl⟩) | fail)
  exact bodyPost_ret (v := .bool (decide (0 ≤ n ∧ n < 10))) (by simp [results, Tryz.results60, go_sem]) rfl ⟨rfl, rfl⟩
theorem bound_Balance (n : Int) (w : World) : Calls Tryz.prog 22 #[.int .i64 n] w fun e w' => e = .returned (.bool (decide (0 ≤ n ∧ n ≤ 1073741824))) ∧ w' = w := by
  go_enter Tryz.func22, Tryz.ntmps22
  go_wp2_with (first | (go_at_call 24; refine (bound_Within n 0 1073741824 _).mono ?_; rintro e w' ⟨rfl, rfl⟩) | fail)
  exact bodyPost_ret (v := .bool (decide (0 ≤ n ∧ n ≤ 1073741824))) (by simp [results, Tryz.results22, go_sem]) rfl ⟨rfl, rfl⟩
theorem code_isRef (n : Int) (w : World) : Calls Tryz.prog 114 #[.int .i64 n] w fun e w' => e = .returned (.bool (decide (0 ≤ n ∧ n < 12))) ∧ w' = w := by
  go_enter Tryz.func114, Tryz.ntmps114
  go_wp2_with (first | (go_at_call 81; refine (bound_Below n 12 _).mono ?_; rintro e w' ⟨rfl, rfl⟩) | fail)
  exact bodyPost_ret (v := .bool (decide (0 ≤ n ∧ n < 12))) (by simp [results, Tryz.results114, go_sem]) rfl ⟨rfl, rfl⟩
end Go.Proofs.YteioacpfphigjaaGreat
end

section
namespace Go.Proofs.YteioacpfphigjaaGreat
open Go.RowKit Go.Maps
set_option linter.unusedVariables false
set_option linter.unusedSimpArgs false

/-- Tracks, and a table of referenda, which lie in the blocks of F. -/
def ReAt (F : FP) (r : Nat) (ts : List Trk) (w : World) : Prop :=
  ∃ tb cap gp, w.heap[r]? = some (.cells #[.slice (some ⟨tb, 0, none⟩) ts.length cap, gp] 97 (0, 0)) ∧ w.rangeAt tb 0 (trkR.all ts) ∧ F r ∧ F tb ∧ tb < w.heap.size ∧ ts.length ≤ 100
section
variable {F : FP} {r : Nat} {ts : List Trk} {w w' : World}
theorem ReAt.keep (h : ReAt F r ts w) (hs : w.heap.size ≤ w'.heap.size) (hk : ∀ k, F k → k < w.heap.size → w'.heap[k]? = w.heap[k]?) : ReAt F r ts w' := by
  obtain ⟨tb, cap, gp, h1, h2, h3, h4, h5, h6⟩ := h
  exact ⟨tb, cap, gp, (hk r h3 (Array.getElem?_eq_some_iff.1 h1).1).trans h1, rangeAt_block h2 (hk tb h4 h5), h3, h4, Nat.lt_of_lt_of_le h5 hs, h6⟩
theorem ReAt.below (h : ReAt F r ts w) (hb : Below w.heap.size w w') : ReAt F r ts w' := h.keep hb.size (fun k _ hk => hb.block k hk)
theorem ReAt.mono {F' : FP} (h : ReAt F r ts w) (hF : ∀ k, F k → F' k) : ReAt F' r ts w := by
  obtain ⟨tb, cap, gp, h1, h2, h3, h4, h5⟩ := h
  exact ⟨tb, cap, gp, h1, h2, hF _ h3, hF _ h4, h5⟩
end
set_option maxRecDepth 100000 in
set_option maxHeartbeats 4000000 in
theorem refer_Track {F : FP} {r : Nat} {ts : List Trk} {w : World} (h : ReAt F r ts w) {k : Nat} (hk : k < ts.length) :
    Calls Tryz.prog 58 #[.pointer (some ⟨r, 0, none⟩), .int .i64 k] w fun e w' => e = .returned (.tuple #[.agg (trkR.f ts[k]).toArray, .bool true]) ∧ Below w.heap.size w w' := by
  obtain ⟨tb, cap, gp, h1, h2, h3, h4, h5, h6⟩ := h
  obtain ⟨n, hn⟩ : ∃ n, n = ts.length := ⟨_, rfl⟩
  rw [← hn] at h1
  have c0 : w.cell? ⟨r, 0, none⟩ = some (.slice (some ⟨tb, 0, none⟩) n cap) := by rw [World.cell?, h1]; rfl
  have hr : w.rangeAt tb (k * 18) (trkR.f ts[k]) := fun j u hj => by
    have hj18 : j < 18 := by have := (List.getElem?_eq_some_iff.1 hj).1; rwa [trkR.len] at this
    have := h2 (k * 18 + j) u (by rw [show k * 18 + j = k * trkR.k + j from rfl, trkR.all_at hk hj18]; exact hj)
    rwa [Nat.zero_add] at this
  obtain ⟨t, ht⟩ : ∃ t, t = ts[k] := ⟨_, rfl⟩
  rw [← ht] at hr ⊢
  have hrlt : r < w.heap.size := (Array.getElem?_eq_some_iff.1 h1).1
  have hkn : (k : Int) < n := by omega
  have hk0 : (0 : Int) ≤ k := by omega
  have hd : decide ((0 : Int) ≤ (k : Int) ∧ (k : Int) < (n : Int)) = true := decide_eq_true ⟨hk0, hkn⟩
  have hkn' : k < n := by omega
  have HD := Lib.hid hd
  have c0' : ∀ C, (w.alloc (.cells C 85)).cell? ⟨r, 0, none⟩ = some (.slice (some ⟨tb, 0, none⟩) n cap) := fun C => (World.cell?_of_block (Below.heap_alloc _ _ _ hrlt)).trans c0
  have hr' : ∀ C, (w.alloc (.cells C 85)).rangeAt tb (k * 18) (trkR.f t) := fun C => rangeAt_block hr (Below.heap_alloc _ _ _ h5)
  have HR := Lib.hid hr'
  have HC := Lib.hid c0'
  clear h1 h2 h3 h4 ht hn hd hr hr' c0' hk h6 c0
  go_enter Tryz.func58, Tryz.ntmps58
  go_wp2_with (first
    | (refine wpl_allocR (r := trkR) (ty := 85) rfl rfl rfl ?_; intro C hC; have c1 := HC.out C)
    | (go_at_call 81; refine (bound_Below _ _ _).mono ?_; rw [HD.out]; rintro e w' ⟨rfl, hw⟩; rw [hw]; clear hw w')
    | (refine wpl_loadR (r := trkR) (t := t) _ rfl rfl rfl (HR.out C) ?_)
    | (refine wpl_storeR (r := trkR) (ty := 85) (t := t) (C := C) _ _ rfl rfl rfl rfl rfl (World.alloc_heap_new w _) hC ?_; rw [World.setRow_alloc_new])
    | fail)
  exact bodyPost_ret (v := .tuple #[.agg (trkR.f t).toArray, .bool true]) (by exact results_R2 (r := trkR) (t := t) (b := w.heap.size) Tryz.results58 rfl rfl (rangeAt_whole (T := 85) (World.alloc_heap_new _ _))) rfl ⟨rfl, (Below.refl _ w).alloc (Nat.le_refl _) _⟩
set_option maxRecDepth 100000 in
set_option maxHeartbeats 4000000 in
theorem refer_Track_no {F : FP} {r : Nat} {ts : List Trk} {w : World} (h : ReAt F r ts w) {k : Int} (hk : ¬ (0 ≤ k ∧ k < ts.length)) :
    Calls Tryz.prog 58 #[.pointer (some ⟨r, 0, none⟩), .int .i64 k] w fun e w' => e = .returned (.tuple #[.agg (trkR.f trk0).toArray, .bool false]) ∧ Below w.heap.size w w' := by
  obtain ⟨tb, cap, gp, h1, h2, h3, h4, h5, h6⟩ := h
  obtain ⟨n, hn⟩ : ∃ n, n = ts.length := ⟨_, rfl⟩
  rw [← hn] at h1 hk
  have c0 : w.cell? ⟨r, 0, none⟩ = some (.slice (some ⟨tb, 0, none⟩) n cap) := by rw [World.cell?, h1]; rfl
  have hrlt : r < w.heap.size := (Array.getElem?_eq_some_iff.1 h1).1
  have hd : decide ((0 : Int) ≤ k ∧ k < (n : Int)) = false := decide_eq_false hk
  have HD := Lib.hid hd
  have c0' : ∀ C, (w.alloc (.cells C 85)).cell? ⟨r, 0, none⟩ = some (.slice (some ⟨tb, 0, none⟩) n cap) := fun C => (World.cell?_of_block (Below.heap_alloc _ _ _ hrlt)).trans c0
  have HC := Lib.hid c0'
  clear h1 h2 h3 h4 hn hd c0' hk h6 c0
  go_enter Tryz.func58, Tryz.ntmps58
  go_wp2_with (first
    | (refine wpl_allocR (r := trkR) (ty := 85) rfl rfl rfl ?_; intro C hC; have c1 := HC.out C)
    | (go_at_call 81; refine (bound_Below _ _ _).mono ?_; rw [HD.out]; rintro e w' ⟨rfl, hw⟩; rw [hw]; clear hw w')
    | (refine wpl_storeR (r := trkR) (ty := 85) (t := trk0) (C := C) _ _ rfl rfl rfl rfl rfl (World.alloc_heap_new w _) hC ?_; rw [World.setRow_alloc_new])
    | fail)
  exact bodyPost_ret (v := .tuple #[.agg (trkR.f trk0).toArray, .bool false]) (by exact results_R2 (r := trkR) (t := trk0) (b := w.heap.size) Tryz.results58 rfl rfl (rangeAt_whole (T := 85) (World.alloc_heap_new _ _))) rfl ⟨rfl, (Below.refl _ w).alloc (Nat.le_refl _) _⟩
end Go.Proofs.YteioacpfphigjaaGreat
end

section
namespace Go.Proofs.YteioacpfphigjaaGreat
open Go.RowKit Go.Maps
set_option linter.unusedVariables false
set_option linter.unusedSimpArgs false

theorem gridNew (w : World) : Calls Tryz.prog 28 #[] w fun e w' => ∃ b, e = .returned (.pointer (some ⟨b, 0, none⟩)) ∧ Below w.heap.size w w' := by
  go_enter Tryz.func28, Tryz.ntmps28
  go_wp2
  go_ret
  exact ⟨_, rfl, (Below.refl _ w).alloc (Nat.le_refl _) _⟩
theorem gridNew_d (w : World) : Calls Tryz.prog 29 #[] w fun e w' => ∃ b, e = .returned (.pointer (some ⟨b, 0, none⟩)) ∧ Below w.heap.size w w' := by
  go_enter Tryz.func29, Tryz.ntmps29
  go_wp2
  go_ret
  exact ⟨_, rfl, (Below.refl _ w).alloc (Nat.le_refl _) _⟩
theorem gridNew_w (w : World) : Calls Tryz.prog 30 #[] w fun e w' => ∃ b, e = .returned (.pointer (some ⟨b, 0, none⟩)) ∧ Below w.heap.size w w' := by
  go_enter Tryz.func30, Tryz.ntmps30
  go_wp2
  go_ret
  exact ⟨_, rfl, (Below.refl _ w).alloc (Nat.le_refl _) _⟩
theorem gridNew_p (w : World) : Calls Tryz.prog 31 #[] w fun e w' => ∃ b, e = .returned (.pointer (some ⟨b, 0, none⟩)) ∧ Below w.heap.size w w' := by
  go_enter Tryz.func31, Tryz.ntmps31
  go_wp2
  go_ret
  exact ⟨_, rfl, (Below.refl _ w).alloc (Nat.le_refl _) _⟩
theorem gridNew_r (w : World) : Calls Tryz.prog 27 #[] w fun e w' => ∃ b, e = .returned (.pointer (some ⟨b, 0, none⟩)) ∧ Below w.heap.size w w' := by
  go_enter Tryz.func27, Tryz.ntmps27
  go_wp2
  go_ret
  exact ⟨_, rfl, (Below.refl _ w).alloc (Nat.le_refl _) _⟩
set_option maxRecDepth 100000 in
set_option maxHeartbeats 4000000 in
theorem voting_New (w : World) : Calls Tryz.prog 10 #[] w fun e w' => ∃ b, e = .returned (.pointer (some ⟨b, 0, none⟩)) ∧ Below w.heap.size w w' := by
  go_enter Tryz.func10, Tryz.ntmps10
  go_wp2_with (first
    | (go_at_call 28; refine (gridNew _).mono ?_; rintro e w1 ⟨b1, rfl, hb⟩; have H1 := Lib.hid hb; clear hb)
    | (go_at_call 29; refine (gridNew_d _).mono ?_; rintro e w2 ⟨b2, rfl, hb⟩; have H2 := Lib.hid hb; clear hb)
    | (go_at_call 30; refine (gridNew_w _).mono ?_; rintro e w3 ⟨b3, rfl, hb⟩; have H3 := Lib.hid hb; clear hb)
    | (go_at_call 31; refine (gridNew_p _).mono ?_; rintro e w4 ⟨b4, rfl, hb⟩; have H4 := Lib.hid hb; clear hb)
    | fail)
  go_ret
  have h1 := H1.out
  have h2 := h1.trans (H2.out.mono h1.size)
  have h3 := h2.trans (H3.out.mono h2.size)
  have h4 := h3.trans (H4.out.mono h3.size)
  exact ⟨_, rfl, h4.alloc h4.size _⟩
end Go.Proofs.YteioacpfphigjaaGreat
end

section
namespace Go.Proofs.YteioacpfphigjaaGreat
open Go.RowKit Go.Maps
set_option linter.unusedVariables false
set_option linter.unusedSimpArgs false

/-- Tracks that may be. -/
def newB (ts : List Trk) : Bool := decide (1 ≤ ts.length ∧ ts.length ≤ 4) && ts.all trackB
theorem slices_CloneT {v : Value} {ts : List Trk} {w : World} {b cap : Nat} (hr : w.rangeAt b 0 (trkR.all ts)) (hb : b < w.heap.size) (hc : ts.length ≤ cap) (hl : ts.length ≤ 1000) :
    Calls Tryz.prog 26 #[.slice (some ⟨b, 0, none⟩) ts.length cap] w fun e w' => ∃ g c, e = .returned (.slice (some ⟨g, 0, none⟩) ts.length c) ∧ w.heap.size ≤ g ∧ OwnR trkR w.heap.size (.slice (some ⟨g, 0, none⟩) ts.length c) ts w' ∧ Below w.heap.size w w' := by
  have NS : ∀ (a : Addr) (n c : Nat) (w : World), (binOp .eql 23 (.slice (some a) n c) (.slice none 0 0)).run Tryz.prog w = .ok (.bool false) w := fun a n c w => by
    have h1 : ∀ d, (Op.equalIn (d + 1) 23 (.slice (some a) n c) (.slice none 0 0)).run Tryz.prog w = .ok false w := fun d => by simp [Op.equalIn, run_underlying Tryz.underlying23]
    have h2 := h1 9999
    rw [show (9999 + 1 : Nat) = 10000 from rfl] at h2
    simp only [binOp]
    simp [Op.equal, Op.maxDepth, h2]
  obtain ⟨n, hn⟩ : ∃ n, n = ts.length := ⟨_, rfl⟩
  have hrd : RdR trkR w (.slice (some ⟨b, 0, none⟩) n cap) ts := by rw [hn]; exact .inr ⟨b, 0, cap, rfl, hc, hb, hr⟩
  have hown : OwnR trkR w.heap.size (.slice (some ⟨w.heap.size, 0, none⟩) 0 0) [] (w.alloc (.cells #[] 85)) := OwnR.none (r := trkR) (World.alloc_heap_new w _) (Nat.le_refl _)
  have HRD := Lib.hid (hrd.below ((Below.refl _ w).alloc (Nat.le_refl _) (.cells #[] 85)))
  have HO := Lib.hid hown
  have HL := Lib.hid hl
  rw [← hn]
  have HN := Lib.hid hn
  clear hr hb hc hl hrd hown hn
  go_enter Tryz.func26, Tryz.ntmps26
  go_wp2_with (first
    | (refine wpl_noneR (r := trkR) rfl rfl ?_)
    | (refine wpl_appsR (r := trkR) (u := .slice (some ⟨b, 0, none⟩) n cap) (v := .slice (some ⟨w.heap.size, 0, none⟩) 0 0) (xs := []) (ys := ts) rfl rfl rfl rfl HO.out HRD.out (by have := HL.out; simp; omega) (by simp) ?_; intro v1 w1 ho hg hat; have H1 := Lib.hid (And.intro ho (And.intro hg hat)); clear ho hg hat)
    | fail)
  have ho := H1.out.1
  rw [List.nil_append] at ho
  have hb1 : Below w.heap.size w w1 := Below.grown ((Below.refl _ w).alloc (Nat.le_refl _) _) H1.out.2.1 (by simp) (fun k hk => by have hk' : some w.heap.size = some k := hk; injection hk' with hk'; omega)
  rcases ho.2 with ⟨rfl, h0⟩ | ⟨g, c, cur, rfl, h1, -⟩
  · exfalso
    rcases H1.out.2.2 with e | e <;> cases e
  · rw [← HN.out] at ho ⊢
    exact bodyPost_ret (v := .slice (some ⟨g, 0, none⟩) n c) (by simp [results, Tryz.results26, go_sem]) rfl ⟨g, c, rfl, h1, ho, hb1⟩
theorem track_IsR (t : Trk) (w : World) : Calls Tryz.prog 25 #[.agg (trkR.f t).toArray] w fun e w' => e = .returned (.bool (trackB t)) ∧ Below w.heap.size w w' := track_Is t w
set_option maxRecDepth 100000 in
set_option maxHeartbeats 4000000 in
theorem refer_New {ts : List Trk} {w : World} {b cap : Nat} (hr : w.rangeAt b 0 (trkR.all ts)) (hb : b < w.heap.size) (hc : ts.length ≤ cap) (hl : ts.length ≤ 100) :
    Calls Tryz.prog 9 #[.slice (some ⟨b, 0, none⟩) ts.length cap] w fun e w' => Below w.heap.size w w' ∧ ((newB ts = true ∧ ∃ r, e = .returned (.tuple #[.pointer (some ⟨r, 0, none⟩), .int .i64 0]) ∧ ReAt (fun k => w.heap.size ≤ k) r ts w') ∨ (newB ts = false ∧ e = .returned (.tuple #[.pointer none, .int .i64 1]))) := by
  obtain ⟨n, hn⟩ : ∃ n, n = ts.length := ⟨_, rfl⟩
  rw [← hn] at hc hl ⊢
  have HR := Lib.hid (And.intro hr (And.intro hb (And.intro hc hn)))
  clear hr hb hc
  by_cases hlen : 1 ≤ n ∧ n ≤ 4
  · have hd : decide ((1 : Int) ≤ (n : Int) ∧ (n : Int) ≤ 4) = true := decide_eq_true (by omega)
    have HD := Lib.hid hd
    have hn4 : n ≤ 4 := hlen.2
    have HLN := Lib.hid (And.intro hlen hn)
    clear hd hlen hn
    go_enter Tryz.func9, Tryz.ntmps9
    go_wp2_with (first
      | (go_at_call 24; refine (bound_Within _ _ _ _).mono ?_; rw [HD.out]; rintro e w' ⟨rfl, hw⟩; rw [hw]; clear hw w')
      | fail)
    go_loopw [12] (fun i wr => ∃ k : Nat, k ≤ n ∧ i = .int .i64 k ∧ (ts.take k).all trackB = true ∧ Below w.heap.size w wr) (fun i _ => n - (intOf i).toNat)
    case atStart => exact ⟨0, by omega, rfl, by simp, Below.refl _ _⟩
    case round =>
      obtain ⟨k, hk, rfl, hall, hbl⟩ := hrel
      by_cases hlt : k < n
      · have hlt' : (k : Int) < n := by omega
        have hkl : k < ts.length := by rw [← HLN.out.2]; exact hlt
        have hrk : wr.rangeAt b (k * 18) (trkR.f ts[k]) := fun j u hj => by
          have hj18 : j < 18 := by have := (List.getElem?_eq_some_iff.1 hj).1; rwa [trkR.len] at this
          have := rangeAt_block HR.out.1 (hbl.block b HR.out.2.1) (k * 18 + j) u (by rw [show k * 18 + j = k * trkR.k + j from rfl, trkR.all_at hkl hj18]; exact hj)
          rwa [Nat.zero_add] at this
        have hts : (ts.take (k + 1)).all trackB = ((ts.take k).all trackB && trackB ts[k]) := by rw [List.take_succ_eq_append_getElem hkl, List.all_append]; simp
        have hna : trackB ts[k] = false → ts.all trackB = false := fun h => by
          rw [Bool.eq_false_iff]
          intro hall
          rw [List.all_eq_true] at hall
          rw [hall _ (List.getElem_mem hkl)] at h
          cases h
        obtain ⟨t, ht⟩ : ∃ t, t = ts[k] := ⟨_, rfl⟩
        rw [← ht] at hrk hts hna
        obtain ⟨W1, hW1⟩ : ∃ W1, W1 = wr.alloc (.cells (trkR.f t).toArray 85) := ⟨_, rfl⟩
        have hr1 : W1.rangeAt wr.heap.size 0 (trkR.f t) := by rw [hW1]; exact rangeAt_whole (T := 85) (World.alloc_heap_new _ _)
        have hb1 : Below w.heap.size w W1 := by rw [hW1]; exact hbl.alloc hbl.size _
        have his := track_IsR t W1
        obtain ⟨q, hq⟩ : ∃ q, q = trackB t := ⟨_, rfl⟩
        rw [← hq] at his hts hna
        have HRK := Lib.hid hrk
        have HA := Lib.hid (And.intro hall (And.intro hts hna))
        have HB := Lib.hid hbl
        have HW1 := Lib.hid hW1
        have HR1 := Lib.hid hr1
        have HB1 := Lib.hid hb1
        have HIS := Lib.hid his
        clear hrk hts hna ht hW1 hr1 hb1 his hq hall hbl hkl
        cases q
        · go_wp2_with (first
            | (refine wpl_allocR (r := trkR) (ty := 85) rfl rfl rfl ?_; intro C hC)
            | (refine wpl_loadR (r := trkR) (t := t) (b := b) (k := k * 18) _ rfl rfl rfl HRK.out ?_)
            | (refine wpl_loadR (r := trkR) (t := t) (b := wr.heap.size) (k := 0) _ rfl rfl rfl HR1.out ?_)
            | (refine wpl_storeR (r := trkR) (ty := 85) (t := t) (C := C) _ _ rfl rfl rfl rfl rfl (World.alloc_heap_new wr _) hC ?_; rw [World.setRow_alloc_new]; rw [show wr.alloc (.cells (trkR.f t).toArray 85) = W1 from HW1.out.symm])
            | (go_at_call 25; refine HIS.out.mono ?_; rintro e w2 ⟨rfl, hb⟩; have H2 := Lib.hid hb; clear hb)
            | fail)
          exact bodyPost_ret (v := .tuple #[.pointer none, .int .i64 1]) (by simp [results, Tryz.results9, go_sem]) rfl ⟨HB1.out.trans (H2.out.mono HB1.out.size), .inr ⟨by unfold newB; rw [HA.out.2.2 (by first | rfl | trivial), Bool.and_false], rfl⟩⟩
        · go_wp2_with (first
            | (refine wpl_allocR (r := trkR) (ty := 85) rfl rfl rfl ?_; intro C hC)
            | (refine wpl_loadR (r := trkR) (t := t) (b := b) (k := k * 18) _ rfl rfl rfl HRK.out ?_)
            | (refine wpl_loadR (r := trkR) (t := t) (b := wr.heap.size) (k := 0) _ rfl rfl rfl HR1.out ?_)
            | (refine wpl_storeR (r := trkR) (ty := 85) (t := t) (C := C) _ _ rfl rfl rfl rfl rfl (World.alloc_heap_new wr _) hC ?_; rw [World.setRow_alloc_new]; rw [show wr.alloc (.cells (trkR.f t).toArray 85) = W1 from HW1.out.symm])
            | (go_at_call 25; refine HIS.out.mono ?_; rintro e w2 ⟨rfl, hb⟩; have H2 := Lib.hid hb; clear hb)
            | fail)
          go_roundw
          case rel => exact ⟨k + 1, by omega, by go_num, by rw [HA.out.2.1, HA.out.1]; rfl, HB1.out.trans (H2.out.mono HB1.out.size)⟩
          case measure => simp [intOf]; omega
      · have hge : ¬ (k : Int) < n := by omega
        have hkn : k = n := by omega
        subst hkn
        have hfull : ts.all trackB = true := by rw [HLN.out.2, List.take_length] at hall; exact hall
        have hcl := slices_CloneT (v := .nilFunc) (rangeAt_block HR.out.1 (hbl.block b HR.out.2.1)) (Nat.lt_of_lt_of_le HR.out.2.1 hbl.size) (by rw [← HR.out.2.2.2]; exact HR.out.2.2.1) (by have := HLN.out; omega) (ts := ts) (cap := cap)
        rw [← HLN.out.2] at hcl
        have hnb : newB ts = true := by unfold newB; rw [hfull, ← HLN.out.2, decide_eq_true HLN.out.1]; rfl
        have HCL := Lib.hid hcl
        have HBL := Lib.hid hbl
        have HNB := Lib.hid hnb
        clear hall hbl hfull hcl hnb hk hlt
        go_wp2_with (first
          | (go_at_call 26; refine HCL.out.mono ?_; rintro e w3 ⟨g, c, rfl, hg, ho, hb⟩; have H3 := Lib.hid (And.intro hg (And.intro ho hb)); clear hg ho hb)
          | (go_at_call 27; refine (gridNew_r _).mono ?_; rintro e w4 ⟨gb, rfl, hb⟩; have H4 := Lib.hid hb; clear hb)
          | fail)
        have hb3 := HBL.out.trans (H3.out.2.2.mono HBL.out.size)
        have hb4 := hb3.trans (H4.out.mono hb3.size)
        obtain ⟨W5, hW5⟩ : ∃ W5, W5 = w4.alloc (.cells #[.slice (some ⟨g, 0, none⟩) k c, .pointer (some ⟨gb, 0, none⟩)] 97) := ⟨_, rfl⟩
        have hb5 : Below w4.heap.size w4 W5 := by rw [hW5]; exact (Below.refl _ w4).alloc (Nat.le_refl _) _
        have hown := H3.out.2.1
        have hglt : g < w3.heap.size := (hown.block rfl).2
        have hrg : w3.rangeAt g 0 (trkR.all ts) := by
          rcases hown.reads with ⟨e, -⟩ | ⟨b', o', c', e, -, -, hr⟩
          · cases e
          · injection e with e1 e2 e3
            injection e1 with e1
            injection e1 with e4 e5
            subst e4 e5
            exact hr
        have hre : ReAt (fun j => w.heap.size ≤ j) w4.heap.size ts W5 := by
          refine ⟨g, c, .pointer (some ⟨gb, 0, none⟩), by rw [hW5, ← HLN.out.2]; exact World.alloc_heap_new _ _, rangeAt_block hrg ((hb5.block g (by have := H4.out.size; omega)).trans (H4.out.block g hglt)), hb4.size, Nat.le_trans HBL.out.size H3.out.1, by have := H4.out.size; have := hb5.size; omega, by have := HLN.out; omega⟩
        rw [← hW5]
        exact bodyPost_ret (v := .tuple #[.pointer (some ⟨w4.heap.size, 0, none⟩), .int .i64 0]) (by simp [results, Tryz.results9, go_sem]) rfl ⟨hb4.trans (hb5.mono hb4.size), .inl ⟨HNB.out, _, rfl, hre⟩⟩
  · have hd : decide ((1 : Int) ≤ (n : Int) ∧ (n : Int) ≤ 4) = false := decide_eq_false (by omega)
    have HD := Lib.hid hd
    have hnb : newB ts = false := by unfold newB; rw [← hn, decide_eq_false hlen]; rfl
    have HNB := Lib.hid hnb
    clear hd hlen hn hnb
    go_enter Tryz.func9, Tryz.ntmps9
    go_wp2_with (first
      | (go_at_call 24; refine (bound_Within _ _ _ _).mono ?_; rw [HD.out]; rintro e w' ⟨rfl, hw⟩; rw [hw]; clear hw w')
      | fail)
    exact bodyPost_ret (v := .tuple #[.pointer none, .int .i64 1]) (by simp [results, Tryz.results9, go_sem]) rfl ⟨Below.refl _ _, .inr ⟨HNB.out, rfl⟩⟩
end Go.Proofs.YteioacpfphigjaaGreat
end

section
namespace Go.Proofs.YteioacpfphigjaaGreat
open Go.RowKit Go.Maps
set_option linter.unusedVariables false
set_option linter.unusedSimpArgs false

/-- Tracks, and referenda of which there are none. -/
def ReG (F : FP) (r gb : Nat) (ts : List Trk) (w : World) : Prop :=
  ∃ tb cap, w.heap[r]? = some (.cells #[.slice (some ⟨tb, 0, none⟩) ts.length cap, .pointer (some ⟨gb, 0, none⟩)] 97 (0, 0)) ∧ w.rangeAt tb 0 (trkR.all ts) ∧ F r ∧ F tb ∧ F gb ∧ tb < w.heap.size ∧ ts.length ≤ 100 ∧ w.heap[gb]? = some (.cells #[.map none, .map none, .int .i64 0] 160 (0, 0))
theorem ReG.keep {F : FP} {r gb : Nat} {ts : List Trk} {w w' : World} (h : ReG F r gb ts w) (hs : w.heap.size ≤ w'.heap.size) (hk : ∀ k, F k → k < w.heap.size → w'.heap[k]? = w.heap[k]?) : ReG F r gb ts w' := by
  obtain ⟨tb, cap, h1, h2, h3, h4, h5, h6, h7, h8⟩ := h
  exact ⟨tb, cap, (hk r h3 (Array.getElem?_eq_some_iff.1 h1).1).trans h1, rangeAt_block h2 (hk tb h4 h6), h3, h4, h5, Nat.lt_of_lt_of_le h6 hs, h7, (hk gb h5 (Array.getElem?_eq_some_iff.1 h8).1).trans h8⟩
theorem ReG.below {F : FP} {r gb : Nat} {ts : List Trk} {w w' : World} (h : ReG F r gb ts w) (hb : Below w.heap.size w w') : ReG F r gb ts w' := h.keep hb.size (fun k _ hk => hb.block k hk)
theorem gridNew_R (w : World) : Calls Tryz.prog 27 #[] w fun e w' => ∃ b, e = .returned (.pointer (some ⟨b, 0, none⟩)) ∧ Below w.heap.size w w' ∧ w.heap.size ≤ b ∧ w'.heap[b]? = some (.cells #[.map none, .map none, .int .i64 0] 160 (0, 0)) := by
  go_enter Tryz.func27, Tryz.ntmps27
  go_wp2
  go_ret
  exact ⟨_, rfl, (Below.refl _ w).alloc (Nat.le_refl _) _, Nat.le_refl _, World.alloc_heap_new _ _⟩
set_option maxRecDepth 100000 in
set_option maxHeartbeats 4000000 in
theorem refer_NewG {ts : List Trk} {w : World} {b cap : Nat} (hr : w.rangeAt b 0 (trkR.all ts)) (hb : b < w.heap.size) (hc : ts.length ≤ cap) (hl : ts.length ≤ 100) :
    Calls Tryz.prog 9 #[.slice (some ⟨b, 0, none⟩) ts.length cap] w fun e w' => Below w.heap.size w w' ∧ ((newB ts = true ∧ ∃ r gb, e = .returned (.tuple #[.pointer (some ⟨r, 0, none⟩), .int .i64 0]) ∧ ReG (fun k => w.heap.size ≤ k) r gb ts w') ∨ (newB ts = false ∧ e = .returned (.tuple #[.pointer none, .int .i64 1]))) := by
  obtain ⟨n, hn⟩ : ∃ n, n = ts.length := ⟨_, rfl⟩
  rw [← hn] at hc hl ⊢
  have HR := Lib.hid (And.intro hr (And.intro hb (And.intro hc hn)))
  clear hr hb hc
  by_cases hlen : 1 ≤ n ∧ n ≤ 4
  · have hd : decide ((1 : Int) ≤ (n : Int) ∧ (n : Int) ≤ 4) = true := decide_eq_true (by omega)
    have HD := Lib.hid hd
    have hn4 : n ≤ 4 := hlen.2
    have HLN := Lib.hid (And.intro hlen hn)
    clear hd hlen hn
    go_enter Tryz.func9, Tryz.ntmps9
    go_wp2_with (first
      | (go_at_call 24; refine (bound_Within _ _ _ _).mono ?_; rw [HD.out]; rintro e w' ⟨rfl, hw⟩; rw [hw]; clear hw w')
      | fail)
    go_loopw [12] (fun i wr => ∃ k : Nat, k ≤ n ∧ i = .int .i64 k ∧ (ts.take k).all trackB = true ∧ Below w.heap.size w wr) (fun i _ => n - (intOf i).toNat)
    case atStart => exact ⟨0, by omega, rfl, by simp, Below.refl _ _⟩
    case round =>
      obtain ⟨k, hk, rfl, hall, hbl⟩ := hrel
      by_cases hlt : k < n
      · have hlt' : (k : Int) < n := by omega
        have hkl : k < ts.length := by rw [← HLN.out.2]; exact hlt
        have hrk : wr.rangeAt b (k * 18) (trkR.f ts[k]) := fun j u hj => by
          have hj18 : j < 18 := by have := (List.getElem?_eq_some_iff.1 hj).1; rwa [trkR.len] at this
          have := rangeAt_block HR.out.1 (hbl.block b HR.out.2.1) (k * 18 + j) u (by rw [show k * 18 + j = k * trkR.k + j from rfl, trkR.all_at hkl hj18]; exact hj)
          rwa [Nat.zero_add] at this
        have hts : (ts.take (k + 1)).all trackB = ((ts.take k).all trackB && trackB ts[k]) := by rw [List.take_succ_eq_append_getElem hkl, List.all_append]; simp
        have hna : trackB ts[k] = false → ts.all trackB = false := fun h => by
          rw [Bool.eq_false_iff]
          intro hall
          rw [List.all_eq_true] at hall
          rw [hall _ (List.getElem_mem hkl)] at h
          cases h
        obtain ⟨t, ht⟩ : ∃ t, t = ts[k] := ⟨_, rfl⟩
        rw [← ht] at hrk hts hna
        obtain ⟨W1, hW1⟩ : ∃ W1, W1 = wr.alloc (.cells (trkR.f t).toArray 85) := ⟨_, rfl⟩
        have hr1 : W1.rangeAt wr.heap.size 0 (trkR.f t) := by rw [hW1]; exact rangeAt_whole (T := 85) (World.alloc_heap_new _ _)
        have hb1 : Below w.heap.size w W1 := by rw [hW1]; exact hbl.alloc hbl.size _
        have his := track_IsR t W1
        obtain ⟨q, hq⟩ : ∃ q, q = trackB t := ⟨_, rfl⟩
        rw [← hq] at his hts hna
        have HRK := Lib.hid hrk
        have HA := Lib.hid (And.intro hall (And.intro hts hna))
        have HB := Lib.hid hbl
        have HW1 := Lib.hid hW1
        have HR1 := Lib.hid hr1
        have HB1 := Lib.hid hb1
        have HIS := Lib.hid his
        clear hrk hts hna ht hW1 hr1 hb1 his hq hall hbl hkl
        cases q
        · go_wp2_with (first
            | (refine wpl_allocR (r := trkR) (ty := 85) rfl rfl rfl ?_; intro C hC)
            | (refine wpl_loadR (r := trkR) (t := t) (b := b) (k := k * 18) _ rfl rfl rfl HRK.out ?_)
            | (refine wpl_loadR (r := trkR) (t := t) (b := wr.heap.size) (k := 0) _ rfl rfl rfl HR1.out ?_)
            | (refine wpl_storeR (r := trkR) (ty := 85) (t := t) (C := C) _ _ rfl rfl rfl rfl rfl (World.alloc_heap_new wr _) hC ?_; rw [World.setRow_alloc_new]; rw [show wr.alloc (.cells (trkR.f t).toArray 85) = W1 from HW1.out.symm])
            | (go_at_call 25; refine HIS.out.mono ?_; rintro e w2 ⟨rfl, hb⟩; have H2 := Lib.hid hb; clear hb)
            | fail)
          exact bodyPost_ret (v := .tuple #[.pointer none, .int .i64 1]) (by simp [results, Tryz.results9, go_sem]) rfl ⟨HB1.out.trans (H2.out.mono HB1.out.size), .inr ⟨by unfold newB; rw [HA.out.2.2 (by first | rfl | trivial), Bool.and_false], rfl⟩⟩
        · go_wp2_with (first
            | (refine wpl_allocR (r := trkR) (ty := 85) rfl rfl rfl ?_; intro C hC)
            | (refine wpl_loadR (r := trkR) (t := t) (b := b) (k := k * 18) _ rfl rfl rfl HRK.out ?_)
            | (refine wpl_loadR (r := trkR) (t := t) (b := wr.heap.size) (k := 0) _ rfl rfl rfl HR1.out ?_)
            | (refine wpl_storeR (r := trkR) (ty := 85) (t := t) (C := C) _ _ rfl rfl rfl rfl rfl (World.alloc_heap_new wr _) hC ?_; rw [World.setRow_alloc_new]; rw [show wr.alloc (.cells (trkR.f t).toArray 85) = W1 from HW1.out.symm])
            | (go_at_call 25; refine HIS.out.mono ?_; rintro e w2 ⟨rfl, hb⟩; have H2 := Lib.hid hb; clear hb)
            | fail)
          go_roundw
          case rel => exact ⟨k + 1, by omega, by go_num, by rw [HA.out.2.1, HA.out.1]; rfl, HB1.out.trans (H2.out.mono HB1.out.size)⟩
          case measure => simp [intOf]; omega
      · have hge : ¬ (k : Int) < n := by omega
        have hkn : k = n := by omega
        subst hkn
        have hfull : ts.all trackB = true := by rw [HLN.out.2, List.take_length] at hall; exact hall
        have hcl := slices_CloneT (v := .nilFunc) (rangeAt_block HR.out.1 (hbl.block b HR.out.2.1)) (Nat.lt_of_lt_of_le HR.out.2.1 hbl.size) (by rw [← HR.out.2.2.2]; exact HR.out.2.2.1) (by have := HLN.out; omega) (ts := ts) (cap := cap)
        rw [← HLN.out.2] at hcl
        have hnb : newB ts = true := by unfold newB; rw [hfull, ← HLN.out.2, decide_eq_true HLN.out.1]; rfl
        have HCL := Lib.hid hcl
        have HBL := Lib.hid hbl
        have HNB := Lib.hid hnb
        clear hall hbl hfull hcl hnb hk hlt
        go_wp2_with (first
          | (go_at_call 26; refine HCL.out.mono ?_; rintro e w3 ⟨g, c, rfl, hg, ho, hb⟩; have H3 := Lib.hid (And.intro hg (And.intro ho hb)); clear hg ho hb)
          | (go_at_call 27; refine (gridNew_R _).mono ?_; rintro e w4 ⟨gb, rfl, hb, hgl, hgb⟩; have H4 := Lib.hid hb; have G4 := Lib.hid (And.intro hgl hgb); clear hb hgl hgb)
          | fail)
        have hb3 := HBL.out.trans (H3.out.2.2.mono HBL.out.size)
        have hb4 := hb3.trans (H4.out.mono hb3.size)
        obtain ⟨W5, hW5⟩ : ∃ W5, W5 = w4.alloc (.cells #[.slice (some ⟨g, 0, none⟩) k c, .pointer (some ⟨gb, 0, none⟩)] 97) := ⟨_, rfl⟩
        have hb5 : Below w4.heap.size w4 W5 := by rw [hW5]; exact (Below.refl _ w4).alloc (Nat.le_refl _) _
        have hown := H3.out.2.1
        have hglt : g < w3.heap.size := (hown.block rfl).2
        have hrg : w3.rangeAt g 0 (trkR.all ts) := by
          rcases hown.reads with ⟨e, -⟩ | ⟨b', o', c', e, -, -, hr⟩
          · cases e
          · injection e with e1 e2 e3
            injection e1 with e1
            injection e1 with e4 e5
            subst e4 e5
            exact hr
        have hre : ReG (fun j => w.heap.size ≤ j) w4.heap.size gb ts W5 := by
          refine ⟨g, c, by rw [hW5, ← HLN.out.2]; exact World.alloc_heap_new _ _, rangeAt_block hrg ((hb5.block g (by have := H4.out.size; omega)).trans (H4.out.block g hglt)), hb4.size, Nat.le_trans HBL.out.size H3.out.1, Nat.le_trans hb3.size G4.out.1, by have := H4.out.size; have := hb5.size; omega, by have := HLN.out; omega, (hb5.block gb (Array.getElem?_eq_some_iff.1 G4.out.2).1).trans G4.out.2⟩
        rw [← hW5]
        exact bodyPost_ret (v := .tuple #[.pointer (some ⟨w4.heap.size, 0, none⟩), .int .i64 0]) (by simp [results, Tryz.results9, go_sem]) rfl ⟨hb4.trans (hb5.mono hb4.size), .inl ⟨HNB.out, _, _, rfl, hre⟩⟩
  · have hd : decide ((1 : Int) ≤ (n : Int) ∧ (n : Int) ≤ 4) = false := decide_eq_false (by omega)
    have HD := Lib.hid hd
    have hnb : newB ts = false := by unfold newB; rw [← hn, decide_eq_false hlen]; rfl
    have HNB := Lib.hid hnb
    clear hd hlen hn hnb
    go_enter Tryz.func9, Tryz.ntmps9
    go_wp2_with (first
      | (go_at_call 24; refine (bound_Within _ _ _ _).mono ?_; rw [HD.out]; rintro e w' ⟨rfl, hw⟩; rw [hw]; clear hw w')
      | fail)
    exact bodyPost_ret (v := .tuple #[.pointer none, .int .i64 1]) (by simp [results, Tryz.results9, go_sem]) rfl ⟨Below.refl _ _, .inr ⟨HNB.out, rfl⟩⟩
end Go.Proofs.YteioacpfphigjaaGreat
end
