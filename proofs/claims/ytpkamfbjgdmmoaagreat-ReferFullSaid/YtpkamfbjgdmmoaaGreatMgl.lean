/-
  Joined texts.
-/
import Derived.BigRegion
import Derived.RegionTactic
import Derived.Deep.QuietTactic
import Derived.BigQuiet
import Derived.StillTailTactics
import Derived.Deep.DeepCutAuto
import Derived.Deep.RegionHeld3
import Derived.TacticsInMore
import Derived.LoopNIn
import Derived.LoopIn
import Derived.Test.YtpkamfbjgdmmoaaGreatMgk

section
namespace Go.Proofs.YtpkamfbjgdmmoaaGreat
open Go.RowKit Go.Maps Go.Sort Go.Shelf
set_option linter.unusedVariables false
set_option linter.unusedSimpArgs false


set_option maxHeartbeats 1000000 in
theorem rising_R {β : Type} {c : Cod β} {b : Nat} {m : List (Int × β)} {w : World} (h : MapAt c b m w) (hm : m.length ≤ 1000000) :
    Calls Tryz.prog 141 #[.map (some b)] w fun e w' => ∃ v, e = .returned v ∧ w'.ownsRow w.heap.size 3 1 v m.length (m.map fun x => Value.int .i64 x.1) ∧ (v = .slice none 0 0 ↔ m = []) ∧ Below w.heap.size w w' := by
  refine (callsIn_wide (n := 6)).1 ?_
  have hbl := h.lt
  obtain ⟨nn, D0, hown, h1, h2⟩ := h.own
  have hs := MapAt.size h.srt hown h1
  have hperm := MapAt.keys h.srt hown h1
  have hseq : SeqGives Fence.wide 2 Tryz.prog 160 #[.pointer (some ⟨w.heap.size, 0, none⟩)] encZ (fun ss => ss.Perm (intKeys D0)) (Maps.size D0) (w.alloc (.cells #[.map (some b)] 200)) :=
    AnyZI.keys_gives (ρ := Tryz.keysR_ren) { Tryz.keysR with } Fence.wide _ trivial rfl (by omega) w.heap.size b nn D0 _ (by simp) (by simp) (hown.alloc _)
  have cK : ∀ mb W, CallsIn Fence.wide 5 Tryz.prog 151 #[.map mb] W fun e w' => e = .returned (.func (.func 160) #[] #[.pointer (some ⟨W.heap.size, 0, none⟩)]) ∧ w' = W.alloc (.cells #[.map mb] 200) := fun mb W => AnyZI.keys_in Tryz.keysR Fence.wide 5 trivial rfl mb W
  have cS := AnyZI.sorted_in Tryz.sortedA Fence.wide 5 trivial trivial trivial trivial rfl (by omega) (sortsA _) (enters_of Tryz.func159 (by kernel_rfl) rfl) 160 #[.pointer (some ⟨w.heap.size, 0, none⟩)] trivial (enters_of Tryz.func160 (by kernel_rfl) rfl) _ _ (by rw [hs]; unfold maxLen; omega) (by rw [hs]; omega) _ hseq
  change CallsIn _ _ Tryz.prog 150 _ _ _ at cS
  have hfK : Fence.wide.fn 151 := trivial
  have hfS : Fence.wide.fn 150 := trivial
  have Hd := Lib.hid (And.intro hs (And.intro hperm (And.intro h1 h.srt)))
  clear hs hperm h1 h2 hm
  refine callsIn_of_wp Tryz.func141 rfl trivial ?_ rfl
  simp only [Tryz.ntmps141, List.size_toArray, List.length_cons, List.length_nil, Nat.reduceAdd, Nat.reduceSub, Array.replicate_succ, Array.replicate_zero, List.push_toArray, List.append_toArray, List.nil_append, List.cons_append]
  gi_wp2_with (first
    | (gi_at_call 151; refine (cK _ _).mono ?_; rintro e w' ⟨rfl, rfl⟩)
    | (gi_at_call 150; refine cS.mono ?_; rintro e w' ⟨v, ss, rfl, hS, hrow, hnil, hb⟩)
    | fail)
  go_ret
  obtain ⟨hs, hperm, h1, hsrt⟩ := Hd.out
  have hp : ss.Perm (m.map (·.1)) := hS.trans hperm.symm
  have hl : ss.length = m.length := by rw [hp.length_eq]; simp
  have hsk := sorted_keys hsrt hp
  refine ⟨v, rfl, ?_, ?_, ((Below.refl _ w).alloc (Nat.le_refl _) _).trans (hb.mono (by simp))⟩
  · have : w'.ownsRow w.heap.size 3 1 v ss.length ((ss.mergeSort (fun x y => decide (x ≤ y))).map encZ) := ownsRow_base_a hrow (by simp)
    rw [hsk, hl] at this
    simpa [encZ, Function.comp_def] using this
  · rw [hnil, ← List.length_eq_zero_iff, ← List.length_eq_zero_iff, hl]

set_option maxHeartbeats 1000000 in
theorem rising_R_nil (w : World) : Calls Tryz.prog 141 #[.map none] w fun e w' => e = .returned (.slice none 0 0) ∧ Below w.heap.size w w' := by
  refine (callsIn_wide (n := 6)).1 ?_
  have hseq : SeqGives Fence.wide 2 Tryz.prog 160 #[.pointer (some ⟨w.heap.size, 0, none⟩)] encZ (fun ss : List Int => ss = []) 0 (w.alloc (.cells #[.map none] 200)) :=
    AnyZI.keys_gives_nil (ρ := Tryz.keysR_ren) { Tryz.keysR with } Fence.wide _ trivial rfl w.heap.size _ (by simp) (by simp)
  have cK : ∀ mb W, CallsIn Fence.wide 5 Tryz.prog 151 #[.map mb] W fun e w' => e = .returned (.func (.func 160) #[] #[.pointer (some ⟨W.heap.size, 0, none⟩)]) ∧ w' = W.alloc (.cells #[.map mb] 200) := fun mb W => AnyZI.keys_in Tryz.keysR Fence.wide 5 trivial rfl mb W
  have cS := AnyZI.sorted_in Tryz.sortedA Fence.wide 5 trivial trivial trivial trivial rfl (by omega) (sortsA _) (enters_of Tryz.func159 (by kernel_rfl) rfl) 160 #[.pointer (some ⟨w.heap.size, 0, none⟩)] trivial (enters_of Tryz.func160 (by kernel_rfl) rfl) _ 0 (Nat.zero_le _) (by omega) _ hseq
  change CallsIn _ _ Tryz.prog 150 _ _ _ at cS
  have hfK : Fence.wide.fn 151 := trivial
  have hfS : Fence.wide.fn 150 := trivial
  refine callsIn_of_wp Tryz.func141 rfl trivial ?_ rfl
  simp only [Tryz.ntmps141, List.size_toArray, List.length_cons, List.length_nil, Nat.reduceAdd, Nat.reduceSub, Array.replicate_succ, Array.replicate_zero, List.push_toArray, List.append_toArray, List.nil_append, List.cons_append]
  gi_wp2_with (first
    | (gi_at_call 151; refine (cK _ _).mono ?_; rintro e w' ⟨rfl, rfl⟩)
    | (gi_at_call 150; refine cS.mono ?_; rintro e w' ⟨v, ss, rfl, rfl, hrow, hnil, hb⟩; obtain rfl : v = .slice none 0 0 := hnil.2 rfl)
    | fail)
  go_ret
  exact ⟨rfl, ((Below.refl _ w).alloc (Nat.le_refl _) _).trans (hb.mono (by simp))⟩
attribute [local go_sem] Oper.semAt_some

/-- What a look at a table finds. -/
theorem GrAt.look_R {g : Nat} {M : Cls Rfm} {F : FP} {w : World} (h : GrAt rfS.cod 173 g M F w) {a b : Int} (ha : (Lit.int .i64 a).wf = true) (hb : (Lit.int .i64 b).wf = true) :
    ∃ mv mi, w.cell? ⟨g, 0, none⟩ = some (.map mv) ∧ (Instr.lookup 170 (.map mv) (.int .i64 a) false).run Tryz.prog w = .ok (.map mi) w ∧
      (Instr.lookup 200 (.map mi) (.int .i64 b) false).run Tryz.prog w = .ok (rfS.cod.enc ((cget M a b).getD rfS.zero)) w := by
  have hu1 : Tryz.prog.underlying 170 = some (.map 3 200) := Tryz.underlying170
  have hu2 : Tryz.prog.underlying 200 = some (.map 3 56) := Tryz.underlying200
  have hz1 : ∀ w, (zeroValue 200).run Tryz.prog w = .ok (codM.enc none) w := fun w => Tryz.zeroValue200 w
  have hz2 : ∀ w, (zeroValue 56).run Tryz.prog w = .ok (rfS.cod.enc rfS.zero) w := fun w => rfS.zeroRun w
  obtain ⟨_, _, _, (⟨rfl, hh⟩ | ⟨B, C, rm, cm, hh, hM, _⟩)⟩ := h
  · exact ⟨none, none, by rw [World.cell?, hh]; rfl, nil_look hu1 (hz1 w) ha false, nil_look hu2 (hz2 w) hb false⟩
  · have hl := hM.row.map.look (z0 := none) hu1 (hz1 w) ha
    cases hs : sget rm a with
    | none =>
      rw [hs] at hl
      refine ⟨some B, none, by rw [World.cell?, hh]; rfl, hl, ?_⟩
      have hr := hM.row.isNil hs
      have : cget M a b = none := by rw [cget, hr]; rfl
      rw [this]
      exact nil_look hu2 (hz2 w) hb false
    | some x =>
      obtain ⟨b', rfl, _, _, h3⟩ := hM.row.at_ a x hs
      rw [hs] at hl
      exact ⟨some B, some b', by rw [World.cell?, hh]; rfl, hl, h3.look hu2 (hz2 w) hb⟩
/-- A row's keys, rising. -/
theorem GrAt.rises_row_R {g : Nat} {M : Cls Rfm} {F : FP} {w : World} (h : GrAt rfS.cod 173 g M F w) (hlen : M.length ≤ 100000) {a : Int} (ha : (Lit.int .i64 a).wf = true) :
    ∃ mv mi, w.cell? ⟨g, 0, none⟩ = some (.map mv) ∧ (Instr.lookup 170 (.map mv) (.int .i64 a) false).run Tryz.prog w = .ok (.map mi) w ∧
      Calls Tryz.prog 141 #[.map mi] w (fun e w' => ∃ v, e = .returned v ∧ OwnN w.heap.size v ((rowOf M a).map (·.1)) w' ∧ Below w.heap.size w w') := by
  have hu1 : Tryz.prog.underlying 170 = some (.map 3 200) := Tryz.underlying170
  have hz1 : ∀ w, (zeroValue 200).run Tryz.prog w = .ok (codM.enc none) w := fun w => Tryz.zeroValue200 w
  have hnil : rowOf M a = [] → Calls Tryz.prog 141 #[.map none] w (fun e w' => ∃ v, e = .returned v ∧ OwnN w.heap.size v ((rowOf M a).map (·.1)) w' ∧ Below w.heap.size w w') := fun e => by
    refine (rising_R_nil w).mono ?_
    rintro _ w' ⟨rfl, hb⟩
    rw [e]
    exact ⟨_, rfl, OwnN.nil _ _, hb⟩
  have hr := row_length M a
  obtain ⟨_, _, _, (⟨rfl, hh⟩ | ⟨B, C, rm, cm, hh, hM, _⟩)⟩ := h
  · exact ⟨none, none, by rw [World.cell?, hh]; rfl, nil_look hu1 (hz1 w) ha false, hnil rfl⟩
  · have hl := hM.row.map.look (z0 := none) hu1 (hz1 w) ha
    cases hs : sget rm a with
    | none =>
      rw [hs] at hl
      exact ⟨some B, none, by rw [World.cell?, hh]; rfl, hl, hnil (hM.row.isNil hs)⟩
    | some x =>
      obtain ⟨b', rfl, _, _, h3⟩ := hM.row.at_ a x hs
      rw [hs] at hl
      refine ⟨some B, some b', by rw [World.cell?, hh]; rfl, hl, (rising_R h3 (by omega)).mono ?_⟩
      rintro e w' ⟨v, rfl, ho, _, hb⟩
      refine ⟨v, rfl, ?_, hb⟩
      unfold OwnN Is
      rw [List.length_map, List.map_map]
      exact ho

set_option maxHeartbeats 4000000 in
set_option maxRecDepth 100000 in
theorem row_iter_R (n : Nat) (bx ba g : Nat) (M : Cls Rfm) (F : FP) (s : Int) (w : World) (hbx : w.cell? ⟨bx, 0, none⟩ = some (.pointer (some ⟨g, 0, none⟩))) (hba : w.cell? ⟨ba, 0, none⟩ = some (.int .i64 s)) (h : GrAt rfS.cod 173 g M F w) (hlen : M.length ≤ 100000) (hs : (Lit.int .i64 s).wf = true)
    (G : FP) (hGb : G bx) (hGa : G ba) (hGF : ∀ k, F k → G k) :
    Iter Tryz.prog n 140 #[.pointer (some ⟨bx, 0, none⟩), .pointer (some ⟨ba, 0, none⟩)] (fun x : Int × Rfm => #[.int .i64 x.1, rfS.cod.enc x.2]) (rowOf M s) G w := by
  intro lp B Ψ J Jx Φ0 W hgw hG hΨ hΦ0 hJ hJx hround h0
  have hc1 : W.cell? ⟨bx, 0, none⟩ = some (.pointer (some ⟨g, 0, none⟩)) := (World.cell?_of_block (hG bx hGb).2).trans hbx
  have hc2 : W.cell? ⟨ba, 0, none⟩ = some (.int .i64 s) := (World.cell?_of_block (hG ba hGa).2).trans hba
  have hW : GrAt rfS.cod 173 g M F W := h.keep hgw (fun k hk => (hG k (hGF k hk)).2)
  have hWd : GrAt rfS.cod 173 g M F W.drew := hW.keep ⟨rfl, rfl, rfl, Nat.le_refl _⟩ (fun _ _ => rfl)
  obtain ⟨mv, mi, hcm, hlm, hrise⟩ := hWd.rises_row_R hlen hs
  have hcm : W.cell? ⟨g, 0, none⟩ = some (.map mv) := hcm
  obtain ⟨hs1, hs2, hs3⟩ := hJ _ _ _ h0
  have mixed : Tryz.prog.follows .mixedOrders = true := by kernel_rfl
  refine callsIn_of_wp Tryz.func140 rfl trivial ?_ rfl
  simp only [Tryz.ntmps140, List.size_toArray, List.length_cons, List.length_nil, Nat.reduceAdd, Nat.reduceSub, Array.replicate_succ, Array.replicate_zero, List.push_toArray, List.append_toArray, List.nil_append, List.cons_append]
  have hsrt := hW.1
  obtain ⟨xs, hxs⟩ : ∃ xs, xs = rowOf M s := ⟨_, rfl⟩
  obtain ⟨ks, hks⟩ : ∃ ks, ks = (rowOf M s).map (·.1) := ⟨_, rfl⟩
  rw [← hks] at hrise
  rw [← hxs] at hround ⊢
  have hkl : ks.length = xs.length := by rw [hks, hxs]; simp
  have hbig : (ks.length : Int) ≤ 100000 := by rw [hkl, hxs]; have := row_length M s; omega
  have HXS := Lib.hid hxs
  have HKS := Lib.hid (And.intro hks (And.intro hkl hsrt))
  clear hxs hks hkl hsrt
  have HW := Lib.hid hW
  have HRS := Lib.hid hrise
  have HRD := Lib.hid hround
  have HJ := Lib.hid hJ
  have HP := Lib.hid hΨ
  have HP0 := Lib.hid hΦ0
  have HG := Lib.hid hG
  have HGF := Lib.hid (And.intro hGb (And.intro hGa hGF))
  have HH0 := Lib.hid h0
  have HS3 := Lib.hid hs3
  have HS1 := Lib.hid hs1
  have HL := Lib.hid hlen
  have HWF := Lib.hid hs
  clear hW hWd hrise hround hJ hJx hG hΨ hΦ0 hbx hba hGb hGa hGF h0 hs1 hs3 hlen hs h
  gi_wp2_with fail
  refine region_meet (R := fun a wc => ∃ co ccap, a = { tmps := #[.func (.yield lp) #[] #[], .pointer (some ⟨bx, 0, none⟩), .pointer (some ⟨ba, 0, none⟩), undef, undef, undef, .pointer (some ⟨g, 0, none⟩), .bool false, .pointer (some ⟨g, 0, none⟩), .pointer (some ⟨g, 0, none⟩), .pointer (some ⟨g, 0, none⟩), .map mv, .int .i64 s, .map mi, .slice co ks.length ccap, .int .i64 ks.length, .int .i64 0, undef, undef, undef, undef, undef, undef, undef, undef, undef, undef, undef, undef, undef, undef, undef, undef], defers := [] } ∧ OwnN W.drew.heap.size (.slice co ks.length ccap) ks wc ∧ Below W.drew.heap.size W.drew wc) ?_ ?_
  · go_region_with (first | (go_at_call 141; refine HRS.out.mono ?_; rintro e wc ⟨vc, rfl, hoc, hbc⟩; obtain ⟨co, ccap, rfl⟩ := hoc.lenOf; have HOC := Lib.hid hoc; have HBC := Lib.hid hbc; clear hoc hbc) | fail)
    all_goals exact ⟨co, ccap, rfl, HOC.out, HBC.out⟩
  rintro _ wc ⟨co, ccap, rfl, hoc, hbc⟩
  have HOC := Lib.hid hoc
  have HBC := Lib.hid hbc
  clear hoc hbc
  have hcs : W.heap.size ≤ wc.heap.size := HBC.out.size
  have hbc' : Below W.heap.size W wc := ((Below.refl _ W).drew).trans (show Below W.heap.size W.drew wc from HBC.out)
  have HO1 := Lib.hid (Only.of_later (Ψ := Ψ) (Φ := Φ0) hbc')
  have hJc : J [] Φ0 wc := HS3.out wc (Grow.of_below hbc') (fun k hk => hbc'.block k (hk.elim (fun h => by omega) (fun h => (HS1.out k h).2)))
  have HJC := Lib.hid hJc
  have hkeep : ∀ wr, Only Ψ Φ0 wc wr → OwnN W.heap.size (.slice co ks.length ccap) ks wr ∧ GrAt rfS.cod 173 g M F wr ∧ wr.cell? ⟨bx, 0, none⟩ = some (.pointer (some ⟨g, 0, none⟩)) ∧ wr.cell? ⟨ba, 0, none⟩ = some (.int .i64 s) := fun wr ho => by
    have hgk : ∀ k, G k → wr.heap[k]? = W.heap[k]? := fun k hk => by
      have hkW : k < W.heap.size := by have := (HG.out k hk).1; have := hgw.size; omega
      rw [ho.block k (by omega) (fun h => (HP.out k h).2 hk) (fun h => HP0.out k h hk)]
      exact hbc'.block k hkW
    refine ⟨OwnN.of HOC.out (Nat.le_refl _) (fun k hk => ?_), HW.out.keep ((Grow.of_below hbc').trans ho.grow) (fun k hk => hgk k (HGF.out.2.2 k hk)), (World.cell?_of_block (hgk bx HGF.out.1)).trans hc1, (World.cell?_of_block (hgk ba HGF.out.2.1)).trans hc2⟩
    obtain ⟨h1, h2⟩ := HOC.out.block hk
    have h1 : W.heap.size ≤ k := h1
    exact ho.block k h2 (fun h => by have := (HP.out k h).1; omega) (fun h => by have := (HS1.out k h).2; omega)
  have HK := Lib.hid hkeep
  clear hkeep hJc hbc' hc1 hc2 hlm hcm
  gi_wp2_with fail
  gi_loopw [16] (fun r wr => ∃ (k : Nat) (Φ : FP), k ≤ ks.length ∧ r = .int .i64 k ∧ J (xs.take k) Φ wr ∧ Only Ψ Φ0 wc wr ∧ (∀ j, Φ j → Φ0 j ∨ wc.heap.size ≤ j)) (fun r wr => ks.length - (intOf r).toNat)
  case atStart => exact ⟨0, Φ0, Nat.zero_le _, rfl, HJC.out, Only.refl _ _ _, fun j h => .inl h⟩
  case round =>
    obtain ⟨k, Φ, hk, rfl, hJ2, ho2, hn2⟩ := hrel
    obtain ⟨hkl, hkl2, hsrt⟩ := HKS.out
    by_cases hlt : k < ks.length
    · have hlt' : (k : Int) < ks.length := by omega
      obtain ⟨hoW, hGW, cb, ca⟩ := HK.out wr ho2
      obtain ⟨b, cap, hv, hcell, hbl, hbu⟩ := hoW.at hlt
      injection hv with hv1 hv2 hv3
      subst hv1
      have hltx : k < xs.length := by omega
      obtain ⟨x, hx⟩ : ∃ x, x = xs[k] := ⟨_, rfl⟩
      have hy : ks[k] = x.1 := by simp only [hkl, hx, HXS.out, List.getElem_map]
      rw [hy] at hcell
      have hxm : x ∈ rowOf M s := by rw [← HXS.out, hx]; exact List.getElem_mem _
      have hxM := (mem_rowOf (x := x)).1 hxm
      have hwfx := hGW.wf hxM
      have hget : cget M s x.1 = some x.2 := hsrt.get.2 hxM
      obtain ⟨mv', mi', cm, l1, l2⟩ := (hGW.keep (w' := wr.drew) ⟨rfl, rfl, rfl, Nat.le_refl _⟩ (fun _ _ => rfl)).look_R (a := s) (b := x.1) HWF.out hwfx.2
      rw [hget, Option.getD_some] at l2
      have cm : wr.cell? ⟨g, 0, none⟩ = some (.map mv') := cm
      have htk : xs.take k ++ [x] = xs.take (k + 1) := by rw [hx]; exact pre_snoc hltx
      have hpre : (xs.take k ++ [x]) <+: xs := by rw [htk]; exact List.take_prefix _ _
      obtain ⟨q1, q2, q3⟩ := HJ.out _ _ _ hJ2
      have hJd : J (xs.take k) Φ wr.drew := q3 wr.drew ⟨rfl, rfl, rfl, Nat.le_refl _⟩ (fun _ _ => rfl)
      obtain ⟨fn, tm, asg, bd, hyy, hR⟩ := HRD.out (xs.take k) x Φ wr.drew hpre hJd
      dsimp only at hyy
      obtain ⟨yv, hyv⟩ : ∃ yv, yv = x.1 := ⟨_, rfl⟩
      rw [← hyv] at hcell hyy l2
      obtain ⟨ev, hev⟩ : ∃ ev, ev = rfS.cod.enc x.2 := ⟨_, rfl⟩
      rw [← hev] at hyy l2
      have HT := Lib.hid htk
      have HPR := Lib.hid hpre
      have HO2 := Lib.hid ho2
      have HN2 := Lib.hid hn2
      have HR := Lib.hid hR
      clear htk hpre q1 q2 q3 hx hy hyv hev hJ2 hJd ho2 hn2 hR hxm hxM hget hwfx hoW hGW hkl hkl2 hsrt hv2 hv3
      gi_wp2_with fail
      refine wpIn_region_still_tail 10 mixed (by kernel_rfl) ?_
      simp only [List.take_succ_cons, List.take_zero, List.drop_succ_cons, List.drop_zero]
      change wpStill _ _ wr.drew _ _ _
      repeat still_step
      refine wpStill_nil ?_
      change wpListIn _ _ _ _ _ _ _ wr.drew
      gi_wp2
      refine HR.out.mono ?_
      rintro e W' ⟨Φ', hn', ho', (⟨rfl, hJ'⟩ | ⟨rfl, hJ'⟩)⟩
      · have ho3 : Only Ψ Φ0 wc W' := HO2.out.trans (Only.undrew ho') HN2.out
        have hn3 : ∀ j, Φ' j → Φ0 j ∨ wc.heap.size ≤ j := fun j hj => (hn' j hj).elim (HN2.out j) (fun h => .inr (by have := HO2.out.grow.size; have : wr.heap.size ≤ j := h; omega))
        gi_wp2
        exact ⟨⟨k + 1, Φ', hlt, by go_num, by rw [← HT.out]; exact hJ', ho3, hn3⟩, by simp [intOf]; omega⟩
      · have ho3 : Only Ψ Φ0 wc W' := HO2.out.trans (Only.undrew ho') HN2.out
        have hn3 : ∀ j, Φ' j → Φ0 j ∨ wc.heap.size ≤ j := fun j hj => (hn' j hj).elim (HN2.out j) (fun h => .inr (by have := HO2.out.grow.size; have : wr.heap.size ≤ j := h; omega))
        gi_wp2
        refine bodyPost_ret (results_none rfl _ _ _) rfl ?_
        exact ⟨⟨_, rfl⟩, Φ', fun j hj => (hn3 j hj).imp id (fun h => by omega), HO1.out.trans ho3 (fun j h => .inl h), .inr ⟨_, HPR.out, hJ'⟩⟩
    · have hkn : k = ks.length := by omega
      subst hkn
      rw [hkl2, List.take_length] at hJ2
      clear hkl hkl2 hsrt
      gi_wp2
      refine bodyPost_end (results_none rfl _ _ _) rfl ?_
      exact ⟨⟨_, rfl⟩, Φ, fun j hj => (hn2 j hj).imp id (fun h => by omega), HO1.out.trans ho2 (fun j h => .inl h), .inl hJ2⟩

set_option maxHeartbeats 4000000 in
theorem row_iter_nil_R (n : Nat) (bx ba : Nat) (w : World) (hbx : w.cell? ⟨bx, 0, none⟩ = some (.pointer none)) (G : FP) (hGb : G bx) :
    Iter Tryz.prog n 140 #[.pointer (some ⟨bx, 0, none⟩), .pointer (some ⟨ba, 0, none⟩)] (fun x : Int × Rfm => #[.int .i64 x.1, rfS.cod.enc x.2]) [] G w := by
  intro lp B Ψ J Jx Φ0 W hgw hG hΨ hΦ0 hJ hJx hround h0
  have hc1 : W.cell? ⟨bx, 0, none⟩ = some (.pointer none) := (World.cell?_of_block (hG bx hGb).2).trans hbx
  refine callsIn_of_wp Tryz.func140 rfl trivial ?_ rfl
  simp only [Tryz.ntmps140, List.size_toArray, List.length_cons, List.length_nil, Nat.reduceAdd, Nat.reduceSub, Array.replicate_succ, Array.replicate_zero, List.push_toArray, List.append_toArray, List.nil_append, List.cons_append]
  have HH0 := Lib.hid h0
  clear hround hJ hJx hG hΨ hbx hGb h0
  gi_wp2
  refine bodyPost_ret (results_none rfl _ _ _) rfl ?_
  exact ⟨⟨_, rfl⟩, Φ0, fun j h => .inl h, Only.refl _ _ _, .inl HH0.out⟩
theorem enters_row1_R : ∀ args w, (callFunc 140 args).run Tryz.prog w = .ok (.enter 140 args) w := enters_of Tryz.func140 (by kernel_rfl) rfl
theorem grid_row_R (p : Option Addr) (s : Int) (w : World) : Calls Tryz.prog 121 #[.pointer p, .int .i64 s] w fun e w' => e = .returned (.func (.func 140) #[] #[.pointer (some ⟨w.heap.size, 0, none⟩), .pointer (some ⟨w.heap.size + 1, 0, none⟩)]) ∧ w' = (w.alloc (.cells #[.pointer p] 91)).alloc (.cells #[.int .i64 s] 3) := by
  go_enter Tryz.func121, Tryz.ntmps121
  go_wp2
  go_ret
  exact ⟨rfl, rfl⟩
end Go.Proofs.YtpkamfbjgdmmoaaGreat
end

section
namespace Go.Proofs.YtpkamfbjgdmmoaaGreat
open Go.RowKit Go.Maps Go.Shelf
set_option linter.unusedVariables false
set_option linter.unusedSimpArgs false


set_option maxRecDepth 100000 in
set_option maxHeartbeats 2000000 in
theorem grid_Row_R {g : Nat} {M : Cls Rfm} {F : FP} {w : World} (h : GrAt rfS.cod 173 g M F w) (hlen : M.length ≤ 100000) {s : Int} (hs : (Lit.int .i64 s).wf = true) :
    Calls Tryz.prog 97 #[.pointer (some ⟨g, 0, none⟩), .int .i64 s] w fun e w' => ∃ f, e = .returned f ∧ Way Tryz.prog encs_R f (rowOf M s) w' ∧ Below w.heap.size w w' := by
  have c1 := grid_row_R (some ⟨g, 0, none⟩) s w
  have hway : ∀ w', w' = ((w.alloc (.cells #[.pointer (some ⟨g, 0, none⟩)] 91)).alloc (.cells #[.int .i64 s] 3)).alloc (.cells #[.func (.func 140) #[] #[.pointer (some ⟨w.heap.size, 0, none⟩), .pointer (some ⟨w.heap.size + 1, 0, none⟩)]] 130) →
      Way Tryz.prog encs_R (.func (.func 139) #[] #[.pointer (some ⟨w.heap.size + 2, 0, none⟩)]) (rowOf M s) w' ∧ Below w.heap.size w w' := by
    intro w' hw'
    have hB : Below w.heap.size w w' := by rw [hw']; exact (((Below.refl _ w).alloc (Nat.le_refl _) _).alloc (by simp) _).alloc (by simp; omega) _
    have hsz : w'.heap.size = w.heap.size + 3 := by rw [hw']; simp
    have b0 : Boxed w' w.heap.size 91 (.pointer (some ⟨g, 0, none⟩)) := by rw [hw']; exact ((Boxed.new w _ _).alloc _).alloc _
    have b1 : Boxed w' (w.heap.size + 1) 3 (.int .i64 s) := by
      have := Boxed.new (w.alloc (.cells #[.pointer (some ⟨g, 0, none⟩)] 91)) 3 (.int .i64 s)
      rw [World.size_alloc] at this
      rw [hw']; exact this.alloc _
    have b2 : Boxed w' (w.heap.size + 2) 130 (.func (.func 140) #[] #[.pointer (some ⟨w.heap.size, 0, none⟩), .pointer (some ⟨w.heap.size + 1, 0, none⟩)]) := by
      have := Boxed.new ((w.alloc (.cells #[.pointer (some ⟨g, 0, none⟩)] 91)).alloc (.cells #[.int .i64 s] 3)) 130 (.func (.func 140) #[] #[.pointer (some ⟨w.heap.size, 0, none⟩), .pointer (some ⟨w.heap.size + 1, 0, none⟩)])
      rw [World.size_alloc, World.size_alloc] at this
      rw [hw']; exact this
    have hg' : GrAt rfS.cod 173 g M F w' := h.keep (Grow.of_below hB) (fun k hk => hB.block k (h.2.2.1 k hk))
    have hi := row_iter_R 0 w.heap.size (w.heap.size + 1) g M F s w' b0.cell b1.cell hg' hlen hs (fun k => k < w'.heap.size) (by omega) (by omega) (fun k hk => hg'.2.2.1 k hk)
    refine ⟨⟨_, _, rfl, enters_begun_R, fun n => ?_⟩, hB⟩
    exact begun_iter_R n (w.heap.size + 2) _ _ (rowOf M s) (fun k => k < w'.heap.size) w' b2 enters_row1_R hi (by omega) (fun k hk => hk) (by have := row_length M s; omega)
  have HW := Lib.hid hway
  have HC := Lib.hid c1
  clear c1 hway h hlen hs
  go_enter Tryz.func97, Tryz.ntmps97
  go_wp2_with (first
    | (go_at_call 121; refine HC.out.mono ?_; rintro e w1 ⟨rfl, rfl⟩)
    | (go_at_call 120; refine (still_Begun_R _ _ ⟨_, _, rfl⟩).mono ?_; rintro e w2 ⟨rfl, rfl⟩)
    | fail)
  go_ret
  exact ⟨_, rfl, (HW.out _ rfl).1, (HW.out _ rfl).2⟩
set_option maxRecDepth 100000 in
set_option maxHeartbeats 2000000 in
theorem grid_Row_nil_R (s : Int) (w : World) :
    Calls Tryz.prog 97 #[.pointer none, .int .i64 s] w fun e w' => ∃ f, e = .returned f ∧ Way Tryz.prog encs_R f [] w' ∧ Below w.heap.size w w' := by
  have c1 := grid_row_R none s w
  have hway : ∀ w', w' = ((w.alloc (.cells #[.pointer none] 91)).alloc (.cells #[.int .i64 s] 3)).alloc (.cells #[.func (.func 140) #[] #[.pointer (some ⟨w.heap.size, 0, none⟩), .pointer (some ⟨w.heap.size + 1, 0, none⟩)]] 130) →
      Way Tryz.prog encs_R (.func (.func 139) #[] #[.pointer (some ⟨w.heap.size + 2, 0, none⟩)]) [] w' ∧ Below w.heap.size w w' := by
    intro w' hw'
    have hB : Below w.heap.size w w' := by rw [hw']; exact (((Below.refl _ w).alloc (Nat.le_refl _) _).alloc (by simp) _).alloc (by simp; omega) _
    have hsz : w'.heap.size = w.heap.size + 3 := by rw [hw']; simp
    have b0 : Boxed w' w.heap.size 91 (.pointer none) := by rw [hw']; exact ((Boxed.new w _ _).alloc _).alloc _
    have b2 : Boxed w' (w.heap.size + 2) 130 (.func (.func 140) #[] #[.pointer (some ⟨w.heap.size, 0, none⟩), .pointer (some ⟨w.heap.size + 1, 0, none⟩)]) := by
      have := Boxed.new ((w.alloc (.cells #[.pointer none] 91)).alloc (.cells #[.int .i64 s] 3)) 130 (.func (.func 140) #[] #[.pointer (some ⟨w.heap.size, 0, none⟩), .pointer (some ⟨w.heap.size + 1, 0, none⟩)])
      rw [World.size_alloc, World.size_alloc] at this
      rw [hw']; exact this
    have hi := row_iter_nil_R 0 w.heap.size (w.heap.size + 1) w' b0.cell (fun k => k < w'.heap.size) (by omega)
    refine ⟨⟨_, _, rfl, enters_begun_R, fun n => ?_⟩, hB⟩
    exact begun_iter_R n (w.heap.size + 2) _ _ [] (fun k => k < w'.heap.size) w' b2 enters_row1_R hi (by omega) (fun k hk => hk) (by simp)
  have HW := Lib.hid hway
  have HC := Lib.hid c1
  clear c1 hway
  go_enter Tryz.func97, Tryz.ntmps97
  go_wp2_with (first
    | (go_at_call 121; refine HC.out.mono ?_; rintro e w1 ⟨rfl, rfl⟩)
    | (go_at_call 120; refine (still_Begun_R _ _ ⟨_, _, rfl⟩).mono ?_; rintro e w2 ⟨rfl, rfl⟩)
    | fail)
  go_ret
  exact ⟨_, rfl, (HW.out _ rfl).1, (HW.out _ rfl).2⟩
end Go.Proofs.YtpkamfbjgdmmoaaGreat
end

section
namespace Go.Proofs.YtpkamfbjgdmmoaaGreat
open Go.RowKit Go.Maps Go.Shelf
set_option linter.unusedVariables false
set_option linter.unusedSimpArgs false

section
variable {r N : Nat} {ts : List Trk} {R : List Rfm} {F : FP} {w : World}
theorem refer_All (h : ReX r N ts R F w) (hl : R.length ≤ 1000) :
    Calls Tryz.prog 57 #[.pointer (some ⟨r, 0, none⟩)] w fun e w' => ∃ bx v, e = .returned (.func (.func 119) #[] #[.pointer (some ⟨bx, 0, none⟩)]) ∧ Boxed w' bx 224 v ∧ OwnR pair_R (bx + 1) v (rowR 0 R) w' ∧ w.heap.size ≤ bx ∧ Below w.heap.size w w' := by
  obtain ⟨tb, cap, gb, FG, h1, h2, h3, h4, h5, h6, h7, h8, h9⟩ := h
  have c1 : w.cell? ⟨r, 1, none⟩ = some (.pointer (some ⟨gb, 0, none⟩)) := by rw [World.cell?, h1]; rfl
  have hrow := grid_Row_R h4 (by rw [tabR_len]; omega) (s := 0) (by decide)
  rw [row_tabR] at hrow
  have hlen : (rowR 0 R).length ≤ 1000000 := by rw [rowR_len]; omega
  have HROW := Lib.hid hrow
  have HL := Lib.hid hlen
  clear h1 h2 h3 h4 h5 h6 h7 h8 h9 hrow hlen hl
  go_enter Tryz.func57, Tryz.ntmps57
  go_wp2_with (first
    | (go_at_call 97; refine HROW.out.mono ?_; rintro e w1 ⟨f, rfl, hway, hb⟩; obtain ⟨gf, lb, rfl, hit⟩ := hway; have H1 := Lib.hid (And.intro hit hb); clear hit hb)
    | (go_at_call 96; refine (still_Now_R gf lb (rowR 0 R) w1 H1.out.1.1 (H1.out.1.2 0).iterI HL.out).mono ?_; rintro e w2 ⟨v, rfl, hbx, ho, hb⟩; have H2 := Lib.hid (And.intro hbx (And.intro ho hb)); clear hbx ho hb)
    | fail)
  go_ret
  exact ⟨_, v, rfl, H2.out.1, H2.out.2.1, H1.out.2.size, H1.out.2.trans (H2.out.2.2.mono H1.out.2.size)⟩
end
theorem cmp_isNaN (x : Int) (w : World) : Calls Tryz.prog 118 #[.int .i64 x] w fun e w' => e = .returned (.bool false) ∧ w' = w := by
  go_enter Tryz.func118, Tryz.ntmps118
  go_wp2_with fail
  exact bodyPost_ret (v := .bool false) (by simp [results, Tryz.results118, go_sem]) rfl ⟨rfl, rfl⟩
def cmpI (x y : Int) : Int := if x < y then -1 else if y < x then 1 else 0
theorem cmp_Compare (x y : Int) (w : World) : Calls Tryz.prog 95 #[.int .i64 x, .int .i64 y] w fun e w' => e = .returned (.int .i64 (cmpI x y)) ∧ w' = w := by
  by_cases h1 : x < y
  · rw [cmpI, if_pos h1]
    go_enter Tryz.func95, Tryz.ntmps95
    go_wp2_with (first | (go_at_call 118; refine (cmp_isNaN _ _).mono ?_; rintro e w' ⟨rfl, hw⟩; rw [hw]; clear hw w') | fail)
    go_ret
    exact ⟨rfl, rfl⟩
  · by_cases h2 : y < x
    · rw [cmpI, if_neg h1, if_pos h2]
      go_enter Tryz.func95, Tryz.ntmps95
      go_wp2_with (first | (go_at_call 118; refine (cmp_isNaN _ _).mono ?_; rintro e w' ⟨rfl, hw⟩; rw [hw]; clear hw w') | fail)
      go_ret
      exact ⟨rfl, rfl⟩
    · rw [cmpI, if_neg h1, if_neg h2]
      go_enter Tryz.func95, Tryz.ntmps95
      go_wp2_with (first | (go_at_call 118; refine (cmp_isNaN _ _).mono ?_; rintro e w' ⟨rfl, hw⟩; rw [hw]; clear hw w') | fail)
      go_ret
      exact ⟨rfl, rfl⟩
/-- Which of two referenda comes first: below 0, the first one. -/
def cmpA (S : Vs) (a b : Int) : Int := cmpI (tallyOf S b).a (tallyOf S a).a
def fieldTl (v : Value) (i : Nat) : Sem Value := Instr.field 54 v i
theorem fieldTl_hide (v : Value) (i : Nat) : Instr.field 54 v i = fieldTl v i := rfl
theorem run_fieldTl (a n s : Int) (w : World) : (fieldTl (.agg #[.int .i64 a, .int .i64 n, .int .i64 s]) 0).run Tryz.prog w = .ok (.int .i64 a) w := by kernel_rfl
set_option maxRecDepth 100000 in
set_option maxHeartbeats 4000000 in
attribute [local go_sem ↓] fieldTl_hide in
theorem choose_cmp {vb N : Nat} {S : Vs} {F : FP} {w : World} (h : VoX vb N S F w) {q : Nat} (hq : w.cell? ⟨q, 0, none⟩ = some (.pointer (some ⟨vb, 0, none⟩))) (a b : Int) :
    Calls Tryz.prog 94 #[.int .i64 a, .int .i64 b, .pointer (some ⟨q, 0, none⟩)] w fun e w' => e = .returned (.int .i64 (cmpA S a b)) ∧ Below w.heap.size w w' := by
  have hql := cell_lt hq
  have hd : Below w.heap.size w w.drew := (Below.refl _ w).drew
  have hT : ∀ W c, Below w.heap.size w W → Calls Tryz.prog 19 #[.pointer (some ⟨vb, 0, none⟩), .int .i64 c] W fun e w' => e = .returned (.agg #[.int .i64 (tallyOf S c).a, .int .i64 (tallyOf S c).n, .int .i64 (tallyOf S c).s]) ∧ Below W.heap.size W w' := fun W c hb => (h.below hb).Tally c
  have hC : ∀ W, Below w.heap.size w W → W.cell? ⟨q, 0, none⟩ = some (.pointer (some ⟨vb, 0, none⟩)) := fun W hb => (World.cell?_of_block (a := ⟨q, 0, none⟩) (hb.block q hql)).trans hq
  have HT := Lib.hid hT
  have HC := Lib.hid hC
  have K0 := Lib.hid hd
  have C0 := Lib.hid (hC _ hd)
  obtain ⟨ta, hta⟩ : ∃ t, t = (tallyOf S a) := ⟨_, rfl⟩
  obtain ⟨tb, htb⟩ : ∃ t, t = (tallyOf S b) := ⟨_, rfl⟩
  have eC : cmpA S a b = cmpI tb.a ta.a := by unfold cmpA; rw [hta, htb]
  have HTa := Lib.hid (fun W (hb : Below w.heap.size w W) => (show Calls Tryz.prog 19 #[.pointer (some ⟨vb, 0, none⟩), .int .i64 a] W fun e w' => e = .returned (.agg #[.int .i64 ta.a, .int .i64 ta.n, .int .i64 ta.s]) ∧ Below W.heap.size W w' by rw [hta]; exact hT W a hb))
  have HTb := Lib.hid (fun W (hb : Below w.heap.size w W) => (show Calls Tryz.prog 19 #[.pointer (some ⟨vb, 0, none⟩), .int .i64 b] W fun e w' => e = .returned (.agg #[.int .i64 tb.a, .int .i64 tb.n, .int .i64 tb.s]) ∧ Below W.heap.size W w' by rw [htb]; exact hT W b hb))
  rw [eC]
  have rfa := run_fieldTl ta.a ta.n ta.s
  have rfb := run_fieldTl tb.a tb.n tb.s
  have mixed : Tryz.prog.follows .mixedOrders = true := by kernel_rfl
  clear h hT hC hd hta htb eC hq
  go_enter Tryz.func94, Tryz.ntmps94
  go_wp2_with fail
  go_region_held3 (fun W => W.cell? ⟨q, 0, none⟩ = some (.pointer (some ⟨vb, 0, none⟩))) (first | exact C0.out | exact C1.out | exact C2.out) (first
    | (go_at_call 19; with_reducible refine (HTb.out _ K0.out).mono ?_; rintro e w1 ⟨rfl, hb⟩; have K1 := Lib.hid (K0.out.trans (hb.mono K0.out.size)); have C1 := Lib.hid (HC.out _ K1.out); clear hb)
    | (go_at_call 19; with_reducible refine (HTa.out _ K1.out).mono ?_; rintro e w2 ⟨rfl, hb⟩; have K2 := Lib.hid (K1.out.trans (hb.mono K1.out.size)); have C2 := Lib.hid (HC.out _ K2.out); clear hb)
    | (go_at_call 95; refine (cmp_Compare _ _ _).mono ?_; rintro e w' ⟨rfl, hw⟩; rw [hw]; clear hw w')
    | fail)
  go_wp2_with fail
  go_ret
  exact ⟨rfl, K2.out⟩
end Go.Proofs.YtpkamfbjgdmmoaaGreat
end

section
namespace Go.Proofs.YtpkamfbjgdmmoaaGreat
open Go.RowKit Go.Maps Go.Shelf
set_option linter.unusedVariables false
set_option linter.unusedSimpArgs false

theorem OwnN.setAt {B g n cap k : Nat} {l : List Int} {w : World} {y : Int} (h : OwnN B (.slice (some ⟨g, 0, none⟩) n cap) l w) (hk : k < l.length) : OwnN B (.slice (some ⟨g, 0, none⟩) n cap) (l.set k y) (w.setCell ⟨g, k, none⟩ (.int .i64 y)) := by
  obtain ⟨h1, h2⟩ := h
  unfold OwnN
  rw [List.length_set]
  refine ⟨by simp [Is], ?_⟩
  rcases h2 with ⟨h2, -⟩ | ⟨g', cap', cur, e, hb, hg, hn, hm, hs, ht⟩
  · cases h2
  · injection e with e1 e2 e3
    injection e1 with e1
    injection e1 with e1
    subst e1 e2 e3
    refine .inr ⟨g, cap, cur.setIfInBounds k (.int .i64 y), rfl, hb, ?_, hn, hm, by simpa using hs, ?_⟩
    · simp [World.setCell, Array.getElem?_modify, hg]
    · rw [Array.toList_setIfInBounds, List.take_set, ht]
      simp [Is, List.map_set]
theorem OwnN.frozen {B g n cap k : Nat} {l : List Int} {w : World} (h : OwnN B (.slice (some ⟨g, 0, none⟩) n cap) l w) : w.frozen? ⟨g, k, none⟩ = false := by
  rcases h.2 with ⟨h2, -⟩ | ⟨g', cap', cur, e, hb, hg, -⟩
  · cases h2
  · injection e with e1 e2 e3
    injection e1 with e1
    injection e1 with e1
    subst e1
    simp [World.frozen?, hg]
theorem OwnN.cellAt {B g n cap k : Nat} {l : List Int} {w : World} (h : OwnN B (.slice (some ⟨g, 0, none⟩) n cap) l w) (hk : k < l.length) : w.cell? ⟨g, k, none⟩ = some (.int .i64 (l.getD k 0)) := by
  obtain ⟨b, cap', e, hc, -, -⟩ := h.at hk
  injection e with e1 e2 e3
  injection e1 with e1
  injection e1 with e1
  subst e1
  rw [hc, List.getD_eq_getElem?_getD, List.getElem?_eq_getElem hk]; rfl
/-- Two neighbours change places. -/
def swp (l : List Int) (j : Nat) : List Int := (l.set (j + 1) (l.getD j 0)).set j (l.getD (j + 1) 0)
theorem swp_len (l : List Int) (j : Nat) : (swp l j).length = l.length := by simp [swp]
/-- One goes down as long as it comes before its neighbour. -/
def insIn (cf : Int → Int → Int) : Nat → List Int → List Int
  | 0, l => l
  | j + 1, l => if cf (l.getD (j + 1) 0) (l.getD j 0) < 0 then insIn cf j (swp l j) else l
def insOut (cf : Int → Int → Int) : Nat → Nat → List Int → List Int
  | 0, _, l => l
  | n + 1, i, l => insOut cf n (i + 1) (insIn cf i l)
def isort (cf : Int → Int → Int) (l : List Int) : List Int := insOut cf (l.length - 1) 1 l
theorem insIn_len (cf : Int → Int → Int) : ∀ (j : Nat) (l : List Int), (insIn cf j l).length = l.length
  | 0, l => rfl
  | j + 1, l => by
    rw [insIn]
    split
    · rw [insIn_len cf j, swp_len]
    · rfl
theorem insOut_len (cf : Int → Int → Int) : ∀ (n i : Nat) (l : List Int), (insOut cf n i l).length = l.length
  | 0, _, l => rfl
  | n + 1, i, l => by rw [insOut, insOut_len cf n, insIn_len]
theorem isort_len (cf : Int → Int → Int) (l : List Int) : (isort cf l).length = l.length := insOut_len cf _ _ l
/-- A row of numbers at block b, from w on; nothing else that was there has changed. -/
structure SrtAt (b cap : Nat) (w : World) (l : List Int) (wr : World) : Prop where
  own : OwnN 0 (.slice (some ⟨b, 0, none⟩) l.length cap) l wr
  grow : Grow w wr
  off : ∀ j, j < w.heap.size → j ≠ b → wr.heap[j]? = w.heap[j]?
  lt : b < w.heap.size
theorem SrtAt.below {b cap : Nat} {w : World} {l : List Int} {wr w' : World} (h : SrtAt b cap w l wr) (hb : Below wr.heap.size wr w') : SrtAt b cap w l w' := by
  have hs := h.grow.size
  have hl := h.lt
  exact ⟨h.own.of (Nat.le_refl _) (fun k hk => by injection hk with hk; simp only at hk; exact hb.block k (by omega)), h.grow.trans (Grow.of_below hb), fun j hj hn => (hb.block j (by omega)).trans (h.off j hj hn), h.lt⟩
theorem SrtAt.set {b cap : Nat} {w : World} {l : List Int} {wr : World} (h : SrtAt b cap w l wr) {k : Nat} (hk : k < l.length) (y : Int) : SrtAt b cap w (l.set k y) (wr.setCell ⟨b, k, none⟩ (.int .i64 y)) := by
  have ho := h.own.setAt hk (y := y)
  exact ⟨by rw [List.length_set]; exact ho, h.grow.trans ⟨rfl, rfl, rfl, by simp [World.setCell]⟩, fun j hj hn => (Below.heap_setCell _ _ _ j hn).trans (h.off j hj hn), h.lt⟩
theorem SrtAt.swap {b cap : Nat} {w : World} {l : List Int} {wr : World} (h : SrtAt b cap w l wr) {j : Nat} (hj : j + 1 < l.length) : SrtAt b cap w (swp l j) ((wr.setCell ⟨b, j + 1, none⟩ (.int .i64 (l.getD j 0))).setCell ⟨b, j, none⟩ (.int .i64 (l.getD (j + 1) 0))) :=
  (h.set hj (l.getD j 0)).set (by rw [List.length_set]; omega) (l.getD (j + 1) 0)
set_option maxHeartbeats 4000000 in
set_option maxRecDepth 100000 in
theorem insertion_small {q b cap : Nat} {cf : Int → Int → Int} {l0 : List Int} {w : World} (hS : SrtAt b cap w l0 w) (hl : l0.length ≤ 1000)
    (hc : ∀ (x y : Int) (wr : World) (l : List Int), SrtAt b cap w l wr → Calls Tryz.prog 94 #[.int .i64 x, .int .i64 y, .pointer (some ⟨q, 0, none⟩)] wr fun e w' => e = .returned (.int .i64 (cf x y)) ∧ Below wr.heap.size wr w') :
    Calls Tryz.prog 137 #[.slice (some ⟨b, 0, none⟩) l0.length cap, .int .i64 0, .int .i64 l0.length, .func (.func 94) #[] #[.pointer (some ⟨q, 0, none⟩)]] w fun e w' => e = .returned (.tuple #[]) ∧ SrtAt b cap w (isort cf l0) w' := by
  obtain ⟨n, hn⟩ : ∃ n, n = l0.length := ⟨_, rfl⟩
  rw [← hn] at hl ⊢
  have HC := Lib.hid hc
  have HS := Lib.hid hS
  have HN := Lib.hid hn
  have mixed : Tryz.prog.follows .mixedOrders = true := by kernel_rfl
  clear hc hS hn
  go_enter Tryz.func137, Tryz.ntmps137
  go_wp2_with fail
  go_loopw [8] (fun i wr => ∃ (k : Nat) (l : List Int), i = .int .i64 k ∧ 1 ≤ k ∧ k ≤ n + 1 ∧ l.length = n ∧ SrtAt b cap w l wr ∧ insOut cf (n - k) k l = isort cf l0) (fun i _ => n + 1 - (intOf i).toNat)
  case atStart => exact ⟨1, l0, rfl, by omega, by omega, HN.out.symm, HS.out, by unfold isort; rw [← HN.out]⟩
  case round =>
    obtain ⟨k, l, rfl, hk1, hkn, hln, hsr, heq⟩ := hrel
    by_cases hlt : k < n
    · have hlt' : (k : Int) < n := by omega
      have HEQ := Lib.hid (And.intro hln (And.intro hsr heq))
      clear hln hsr heq
      go_wp2_with fail
      go_loopw [9] (fun i wr2 => ∃ (j : Nat) (l2 : List Int), i = .int .i64 j ∧ j ≤ k ∧ l2.length = n ∧ SrtAt b cap w l2 wr2 ∧ insIn cf j l2 = insIn cf k l) (fun i _ => (intOf i).toNat)
      case atStart => exact ⟨k, l, rfl, Nat.le_refl _, HEQ.out.1, HEQ.out.2.1, rfl⟩
      case round =>
        obtain ⟨j, l2, rfl, hjk, hl2, hsr2, heq2⟩ := hrel
        have hin : insOut cf (n - (k + 1)) (k + 1) (insIn cf k l) = isort cf l0 := by
          have := HEQ.out.2.2
          rw [show n - k = (n - (k + 1)) + 1 by omega, insOut] at this
          exact this
        have HIN := Lib.hid hin
        clear hin
        cases j with
        | zero =>
          have HE2 := Lib.hid (And.intro hl2 (And.intro hsr2 heq2))
          clear hl2 hsr2 heq2
          rw [show ((0 : Nat) : Int) = 0 from rfl]
          go_wp2_with fail
          go_quiet (fail)
          go_wp2_with fail
          obtain ⟨hl2, hsr2, heq2⟩ := HE2.out
          have e : insIn cf k l = l2 := heq2.symm
          refine ⟨⟨k + 1, insIn cf k l, by go_num, by omega, by omega, by rw [e]; exact hl2, ?_, HIN.out⟩, by simp [intOf]; omega⟩
          rw [e]
          exact hsr2.below (below_dn (Below.refl _ _) _)
        | succ j =>
          obtain ⟨x, hx⟩ : ∃ x, x = l2.getD (j + 1) 0 := ⟨_, rfl⟩
          obtain ⟨y, hy⟩ : ∃ y, y = l2.getD j 0 := ⟨_, rfl⟩
          have hs2 := swp_len l2 j
          obtain ⟨k1, hk1⟩ : ∃ k1, k1 = j + 1 := ⟨_, rfl⟩
          have c1 : wr.drew.cell? ⟨b, k1, none⟩ = some (.int .i64 x) := by rw [hx, hk1]; exact hsr2.own.cellAt (by omega)
          have c0 : wr.drew.cell? ⟨b, j, none⟩ = some (.int .i64 y) := by rw [hy]; exact hsr2.own.cellAt (by omega)
          have hcall := HC.out x y wr.drew l2 (hsr2.below (Below.refl _ _).drew)
          obtain ⟨cv, hcv⟩ : ∃ cv, cv = cf x y := ⟨_, rfl⟩
          rw [← hcv] at hcall
          have hjn : (j : Int) < n := by omega
          have hkn1 : (k1 : Int) < n := by omega
          have hj1 : IntKind.i64.wrap ((k1 : Int) - 1) = j := by rw [hk1, show ((j + 1 : Nat) : Int) - 1 = j by omega]; exact IntWalk.i64_in _ (by omega)
          have hjp3 : decide ((0 : Int) < (k1 : Int)) = true := decide_eq_true (by omega)
          have hjp4 : 0 < k1 := by omega
          -- behind the exchange
          have hnext : ∀ w2, Below wr.heap.size wr w2 → cv < 0 → SrtAt b cap w (swp l2 j) ((w2.setCell ⟨b, k1, none⟩ (.int .i64 y)).setCell ⟨b, j, none⟩ (.int .i64 x)) ∧ insIn cf j (swp l2 j) = insIn cf k l ∧ (swp l2 j).length = n ∧ w2.cell? ⟨b, k1, none⟩ = some (.int .i64 x) ∧ w2.cell? ⟨b, j, none⟩ = some (.int .i64 y) ∧ (∀ i, w2.frozen? ⟨b, i, none⟩ = false) ∧ (w2.setCell ⟨b, k1, none⟩ (.int .i64 y)).cell? ⟨b, j, none⟩ = some (.int .i64 y) ∧ (w2.setCell ⟨b, k1, none⟩ (.int .i64 y)).frozen? ⟨b, j, none⟩ = false := fun w2 hb hlt0 => by
            have h2 := hsr2.below hb
            refine ⟨?_, ?_, by rw [hs2, hl2], by rw [hx, hk1]; exact h2.own.cellAt (by omega), by rw [hy]; exact h2.own.cellAt (by omega), fun i => h2.own.frozen, ?_, ?_⟩
            · have := h2.swap (j := j) (by omega)
              rw [hk1, hx, hy]; exact this
            · rw [← heq2, insIn, if_pos (by rw [← hx, ← hy, ← hcv]; exact hlt0)]
            · have h3 := h2.set (k := k1) (by omega) y
              rw [h3.own.cellAt (by rw [List.length_set]; omega), List.getD_eq_getElem?_getD, List.getElem?_set_ne (by omega), ← List.getD_eq_getElem?_getD, ← hy]
            · exact (h2.set (k := k1) (by omega) y).own.frozen
          have hstop : ∀ w2, Below wr.heap.size wr w2 → ¬ cv < 0 → SrtAt b cap w (insIn cf k l) w2 ∧ (insIn cf k l).length = n := fun w2 hb hge => by
            have e : insIn cf k l = l2 := by rw [← heq2, insIn, if_neg (by rw [← hx, ← hy, ← hcv]; exact hge)]
            rw [e]
            exact ⟨hsr2.below hb, hl2⟩
          have HNX := Lib.hid hnext
          have HSP := Lib.hid hstop
          have HCA := Lib.hid hcall
          have HJ := Lib.hid (And.intro hk1 hjk)
          rw [← hk1]
          clear hl2 hsr2 heq2 hx hy hcv hcall hnext hstop hs2 hk1 hjk
          go_wp2_with fail
          go_still_tail 14, (by kernel_rfl)
          change wpList _ _ _ _ _ wr.drew
          by_cases hcv : cv < 0
          · have hcvb : decide (cv < 0) = true := decide_eq_true hcv
            have HCV := Lib.hid hcv
            clear hcv
            go_upto_region 6 with (first
              | (go_at_call 94; refine HCA.out.mono ?_; rintro e w2 ⟨rfl, hb⟩; have H2 := Lib.hid hb; clear hb)
              | fail)
            obtain ⟨hsw, hin2, hln2, d1, d0, fz, g1, g0⟩ := HNX.out w2 ((Below.refl _ wr).drew.trans H2.out) HCV.out
            have HSW := Lib.hid (And.intro hsw (And.intro hin2 hln2))
            have f1 := fz k1
            have f0 := fz j
            clear hsw hin2 hln2 fz c1 c0
            go_region
            all_goals
              go_wp2_with fail
              first
                | exact ⟨⟨j, swp l2 j, by first | rfl | go_num, by have := HJ.out; omega, HSW.out.2.2, HSW.out.1, HSW.out.2.1⟩, by have := HJ.out.1; simp [intOf]; omega⟩
                | exact ⟨⟨j, swp l2 j, by first | rfl | go_num, by have := HJ.out; omega, HSW.out.2.2, HSW.out.1.below (below_dn (Below.refl _ _) _), HSW.out.2.1⟩, by have := HJ.out.1; simp [intOf]; omega⟩
          · have hcvb : decide (cv < 0) = false := decide_eq_false hcv
            have HCV := Lib.hid hcv
            clear hcv
            go_wp2_with (first
              | (go_at_call 94; refine HCA.out.mono ?_; rintro e w2 ⟨rfl, hb⟩; have H2 := Lib.hid hb; clear hb)
              | fail)
            obtain ⟨h1, h2⟩ := HSP.out w2 ((Below.refl _ wr).drew.trans H2.out) HCV.out
            exact ⟨⟨k + 1, insIn cf k l, by go_num, by omega, by omega, h2, h1, HIN.out⟩, by simp [intOf]; omega⟩
    · have hge : ¬ (k : Int) < n := by omega
      have e : l = isort cf l0 := by rw [← heq, show n - k = 0 by omega]; rfl
      have HF := Lib.hid (And.intro hsr e)
      clear hsr heq e hln
      go_wp2_with fail
      refine bodyPost_end (results_none rfl _ _ _) rfl ?_
      refine ⟨rfl, ?_⟩
      rw [← HF.out.2]
      exact HF.out.1
end Go.Proofs.YtpkamfbjgdmmoaaGreat
end

section
namespace Go.Proofs.YtpkamfbjgdmmoaaGreat
open Go.RowKit Go.Maps Go.Shelf
set_option linter.unusedVariables false
set_option linter.unusedSimpArgs false

set_option maxHeartbeats 4000000 in
set_option maxRecDepth 100000 in
theorem insertion_none (f : Value) (w : World) : Calls Tryz.prog 137 #[.slice none 0 0, .int .i64 0, .int .i64 0, f] w fun e w' => (∃ v, e = .returned v) ∧ w' = w := by
  go_enter Tryz.func137, Tryz.ntmps137
  go_wp2_with fail
  go_loopw [8] (fun i wr => i = .int .i64 1 ∧ wr = w) (fun _ _ => 0)
  case atStart => exact ⟨rfl, rfl⟩
  case round =>
    obtain ⟨rfl, rfl⟩ := hrel
    go_wp2_with fail
    refine bodyPost_end (results_none rfl _ _ _) rfl ?_
    exact ⟨⟨_, rfl⟩, rfl⟩
set_option maxHeartbeats 4000000 in
set_option maxRecDepth 100000 in
theorem stable_none (f : Value) (w : World) : Calls Tryz.prog 117 #[.slice none 0 0, .int .i64 0, f] w fun e w' => (∃ v, e = .returned v) ∧ w' = w := by
  go_enter Tryz.func117, Tryz.ntmps117
  go_wp2_with fail
  go_loopw [7, 8] (fun a b wr => a = .int .i64 0 ∧ b = .int .i64 20 ∧ wr = w) (fun _ _ _ => 0)
  case atStart => exact ⟨rfl, rfl, rfl⟩
  case round =>
    obtain ⟨rfl, rfl, rfl⟩ := hrel
    obtain ⟨wq, hwq⟩ : ∃ wq, wq = wr := ⟨_, rfl⟩
    subst hwq
    go_wp2_with (first
      | (go_at_call 137; refine (insertion_none _ _).mono ?_; rintro e w' ⟨⟨v, rfl⟩, hw⟩; rw [hw]; clear hw w')
      | fail)
    go_loopw [6] (fun a wr => a = .int .i64 20 ∧ wr = wq) (fun _ _ => 0)
    case atStart => exact ⟨rfl, rfl⟩
    case round =>
      obtain ⟨rfl, rfl⟩ := hrel
      go_wp2_with fail
      refine bodyPost_end (results_none rfl _ _ _) rfl ?_
      exact ⟨⟨_, rfl⟩, rfl⟩
theorem sortStable_none {fn : Nat} {lb : Array Value} (w : World) : Calls Tryz.prog 93 #[.slice none 0 0, .func (.func fn) #[] lb] w fun e w' => (∃ v, e = .returned v) ∧ w' = w := by
  go_enter Tryz.func93, Tryz.ntmps93
  go_wp2_with (first
    | (go_at_call 117; refine (stable_none _ _).mono ?_; rintro e w' ⟨⟨v, rfl⟩, hw⟩; rw [hw]; clear hw w')
    | fail)
  refine bodyPost_end (results_none rfl _ _ _) rfl ?_
  exact ⟨⟨_, rfl⟩, rfl⟩
section
variable {q b cap : Nat} {cf : Int → Int → Int} {l0 : List Int} {w : World}
set_option maxHeartbeats 4000000 in
set_option maxRecDepth 100000 in
theorem stable_small (hS : SrtAt b cap w l0 w) (hl : l0.length ≤ 12)
    (hc : ∀ (x y : Int) (wr : World) (l : List Int), SrtAt b cap w l wr → Calls Tryz.prog 94 #[.int .i64 x, .int .i64 y, .pointer (some ⟨q, 0, none⟩)] wr fun e w' => e = .returned (.int .i64 (cf x y)) ∧ Below wr.heap.size wr w') :
    Calls Tryz.prog 117 #[.slice (some ⟨b, 0, none⟩) l0.length cap, .int .i64 l0.length, .func (.func 94) #[] #[.pointer (some ⟨q, 0, none⟩)]] w fun e w' => (∃ v, e = .returned v) ∧ SrtAt b cap w (isort cf l0) w' := by
  have hin := insertion_small hS (by omega) hc
  obtain ⟨n, hn⟩ : ∃ n, n = l0.length := ⟨_, rfl⟩
  rw [← hn] at hl hin ⊢
  have HIN := Lib.hid hin
  have h20 : ¬ (20 : Int) ≤ n := by omega
  have h20' : ¬ (20 : Int) < n := by omega
  clear hin hS hc hn
  go_enter Tryz.func117, Tryz.ntmps117
  go_wp2_with fail
  go_loopw [7, 8] (fun a b wr => a = .int .i64 0 ∧ b = .int .i64 20 ∧ wr = w) (fun _ _ _ => 0)
  case atStart => exact ⟨rfl, rfl, rfl⟩
  case round =>
    obtain ⟨rfl, rfl, rfl⟩ := hrel
    obtain ⟨wq, hwq⟩ : ∃ wq, wq = wr := ⟨_, rfl⟩
    subst hwq
    go_wp2_with (first
      | (go_at_call 137; refine HIN.out.mono ?_; rintro e w2 ⟨rfl, hs⟩; have HS2 := Lib.hid hs; clear hs)
      | fail)
    go_loopw [6] (fun a wr => a = .int .i64 20 ∧ wr = w2) (fun _ _ => 0)
    case atStart => exact ⟨rfl, rfl⟩
    case round =>
      obtain ⟨rfl, rfl⟩ := hrel
      go_wp2_with fail
      refine bodyPost_end (results_none rfl _ _ _) rfl ?_
      exact ⟨⟨_, rfl⟩, HS2.out⟩
/-- Numbers of one's own, sorted. -/
theorem sortStable_small {B : Nat} {v : Value} (hO : OwnN B v l0 w) (hl : l0.length ≤ 12)
    (hc : ∀ (x y : Int) (wr : World), Grow w wr → (∀ j, j < w.heap.size → v.ownBlock ≠ some j → wr.heap[j]? = w.heap[j]?) → Calls Tryz.prog 94 #[.int .i64 x, .int .i64 y, .pointer (some ⟨q, 0, none⟩)] wr fun e w' => e = .returned (.int .i64 (cf x y)) ∧ Below wr.heap.size wr w') :
    Calls Tryz.prog 93 #[v, .func (.func 94) #[] #[.pointer (some ⟨q, 0, none⟩)]] w fun e w' => (∃ u, e = .returned u) ∧ OwnN B v (isort cf l0) w' ∧ Grow w w' ∧ ∀ j, j < w.heap.size → v.ownBlock ≠ some j → w'.heap[j]? = w.heap[j]? := by
  rcases hO.2 with ⟨rfl, hn⟩ | ⟨b, cap, cur, rfl, hb, hg, hn, hm, hs, ht⟩
  · obtain rfl : l0 = [] := List.length_eq_zero_iff.1 hn
    refine (sortStable_none w).mono ?_
    rintro e w' ⟨he, rfl⟩
    exact ⟨he, hO, Grow.refl _, fun _ _ _ => rfl⟩
  · have hbl : b < w.heap.size := (Array.getElem?_eq_some_iff.1 hg).1
    have hS : SrtAt b cap w l0 w := ⟨hO.of (Nat.zero_le _) (fun _ _ => rfl), Grow.refl _, fun _ _ _ => rfl, hbl⟩
    have hst := stable_small (q := q) (cf := cf) hS hl (fun x y wr l h => hc x y wr h.grow (fun j hj hne => h.off j hj (fun e => hne (by rw [e]; rfl))))
    obtain ⟨n, hn'⟩ : ∃ n, n = l0.length := ⟨_, rfl⟩
    rw [← hn'] at hst ⊢
    have HST := Lib.hid hst
    have HB := Lib.hid hb
    have HL := Lib.hid (And.intro hn' hl)
    clear hst hS hO hc hg hs ht hn hm hl hb hbl hn'
    go_enter Tryz.func93, Tryz.ntmps93
    go_wp2_with (first
      | (go_at_call 117; refine HST.out.mono ?_; rintro e w2 ⟨⟨u, rfl⟩, hs⟩; have HS2 := Lib.hid hs; clear hs)
      | fail)
    refine bodyPost_end (results_none rfl _ _ _) rfl ?_
    have h2 := HS2.out
    refine ⟨⟨_, rfl⟩, ?_, h2.grow, fun j hj hne => h2.off j hj (fun e => hne (by rw [e]; rfl))⟩
    obtain ⟨ho1, ho2⟩ := h2.own
    rw [isort_len, ← HL.out.1] at ho2
    refine ⟨ho1, ?_⟩
    rw [isort_len, ← HL.out.1]
    rcases ho2 with ⟨e, -⟩ | ⟨g', cap', cur', e, -, q2, q3, q4, q5, q6⟩
    · cases e
    · injection e with e1 e2 e3
      injection e1 with e1
      injection e1 with e1
      exact .inr ⟨g', cap', cur', by rw [e1, e3], by rw [← e1]; exact HB.out, q2, q3, q4, q5, q6⟩
end
end Go.Proofs.YtpkamfbjgdmmoaaGreat
end

section
namespace Go.Proofs.YtpkamfbjgdmmoaaGreat
open Go.RowKit Go.Maps Go.Shelf
set_option linter.unusedVariables false
set_option linter.unusedSimpArgs false

theorem intInfo : (Tryz.prog.info? 3).map (fun i => (i.zero, i.size, i.bytes)) = some (some (.int .i64 0), 1, 8) := by kernel_rfl
/-- One that is decided already, by track i. -/
def isDec (i : Int) (x : Rfm) : Bool := decide (x.st = 1) && decide (x.tr = i) && !decide (x.si = -1)
/-- One that waits, and may be decided now. -/
def isWait (t : Trk) (i now : Int) (x : Rfm) : Bool := decide (x.st = 1) && decide (x.tr = i) && decide (x.si = -1) && !decide (x.bk = -1) && decide (t.prep ≤ now - x.sb)
def decP (i : Int) (l : List (Int × Rfm)) : Nat := (l.filter (fun p => isDec i p.2)).length
def waitP (t : Trk) (i now : Int) (l : List (Int × Rfm)) : List Int := (l.filter (fun p => isWait t i now p.2)).map (·.1)
theorem decP_snoc (i : Int) (l : List (Int × Rfm)) (x : Int × Rfm) : decP i (l ++ [x]) = decP i l + if isDec i x.2 then 1 else 0 := by
  unfold decP
  rw [List.filter_append, List.length_append]
  congr 1
  by_cases h : isDec i x.2 = true <;> simp [h]
theorem waitP_snoc (t : Trk) (i now : Int) (l : List (Int × Rfm)) (x : Int × Rfm) : waitP t i now (l ++ [x]) = waitP t i now l ++ if isWait t i now x.2 then [x.1] else [] := by
  unfold waitP
  rw [List.filter_append, List.map_append]
  congr 1
  by_cases h : isWait t i now x.2 = true <;> simp [h]
theorem decP_le (i : Int) (l : List (Int × Rfm)) : decP i l ≤ l.length := List.length_filter_le _ _
theorem waitP_len (t : Trk) (i now : Int) (l : List (Int × Rfm)) : (waitP t i now l).length ≤ l.length := by unfold waitP; rw [List.length_map]; exact List.length_filter_le _ _
/-- Some are decided from now on. -/
def selR (R : List Rfm) (now : Int) (l : List Int) : List Rfm := l.foldl (fun R k => R.set k.toNat { refAt R k with si := now }) R
theorem selR_snoc (R : List Rfm) (now : Int) (l : List Int) (k : Int) : selR R now (l ++ [k]) = (selR R now l).set k.toNat { refAt (selR R now l) k with si := now } := by simp [selR]
theorem selR_len (R : List Rfm) (now : Int) : ∀ l : List Int, (selR R now l).length = R.length := by
  intro l
  unfold selR
  induction l generalizing R with
  | nil => rfl
  | cons a l ih => rw [List.foldl_cons, ih, List.length_set]
/-- Whom choose chooses, in the order in which it does. -/
def chosen (t : Trk) (R : List Rfm) (S : Vs) (i now : Int) : List Int :=
  let l := isort (cmpA S) (waitP t i now (rowR 0 R))
  l.take (min l.length (max (t.most - decP i (rowR 0 R)) 0).toNat)
def chooseR (t : Trk) (R : List Rfm) (S : Vs) (i now : Int) : List Rfm := selR R now (chosen t R S i now)
theorem chooseR_len (t : Trk) (R : List Rfm) (S : Vs) (i now : Int) : (chooseR t R S i now).length = R.length := selR_len _ _ _
/-- What sorts keeps what is there. -/
theorem mem_swp {l : List Int} {j : Nat} (hj : j + 1 < l.length) {x : Int} (h : x ∈ swp l j) : x ∈ l := by
  unfold swp at h
  have key : ∀ {m : List Int} {k : Nat} {y : Int}, x ∈ m.set k y → x ∈ m ∨ x = y := fun h => List.mem_or_eq_of_mem_set h
  have g : ∀ k, k < l.length → l.getD k 0 ∈ l := fun k hk => by rw [List.getD_eq_getElem?_getD, List.getElem?_eq_getElem hk]; exact List.getElem_mem _
  rcases key h with h | rfl
  · rcases key h with h | rfl
    · exact h
    · exact g j (by omega)
  · exact g (j + 1) hj
theorem mem_insIn {cf : Int → Int → Int} {x : Int} : ∀ (j : Nat) (l : List Int), j < l.length ∨ l = [] → x ∈ insIn cf j l → x ∈ l
  | 0, l, _, h => h
  | j + 1, l, hj, h => by
    rw [insIn] at h
    split at h
    · rcases hj with hj | rfl
      · exact mem_swp hj (mem_insIn j (swp l j) (.inl (by rw [swp_len]; omega)) h)
      · rename_i q
        have e : swp [] j = [] := by simp [swp]
        rw [e] at h
        exact mem_insIn j [] (.inr rfl) h
    · exact h
theorem mem_insOut {cf : Int → Int → Int} {x : Int} : ∀ (n i : Nat) (l : List Int), i + n ≤ l.length ∨ n = 0 → x ∈ insOut cf n i l → x ∈ l
  | 0, _, l, _, h => h
  | n + 1, i, l, hl, h => by
    rw [insOut] at h
    have hl : i + (n + 1) ≤ l.length := by omega
    exact mem_insIn i l (.inl (by omega)) (mem_insOut n (i + 1) (insIn cf i l) (.inl (by rw [insIn_len]; omega)) h)
theorem mem_isort {cf : Int → Int → Int} {l : List Int} {x : Int} (h : x ∈ isort cf l) : x ∈ l := by
  unfold isort at h
  exact mem_insOut _ _ _ (by omega) h
theorem mem_chosen {t : Trk} {R : List Rfm} {S : Vs} {i now : Int} {x : Int} (h : x ∈ chosen t R S i now) : ∃ k : Nat, x = k ∧ k < R.length := by
  have h1 := mem_isort (List.mem_of_mem_take h)
  unfold waitP at h1
  obtain ⟨p, hp, rfl⟩ := List.mem_map.1 h1
  obtain ⟨j, hj, e⟩ := mem_rowR.1 (List.mem_filter.1 hp).1
  exact ⟨j, by rw [e]; omega, (List.getElem?_eq_some_iff.1 hj).1⟩
theorem Rin.sel {ts : List Trk} {R : List Rfm} (h : Rin ts R) {now : Int} (hn : soon now) : ∀ {l : List Int}, (∀ x ∈ l, ∃ k : Nat, x = k ∧ k < R.length) → Rin ts (selR R now l) := by
  intro l
  unfold selR
  induction l generalizing R with
  | nil => exact fun _ => h
  | cons a l ih =>
    intro hl
    rw [List.foldl_cons]
    obtain ⟨k, rfl, hk⟩ := hl a (by simp)
    have hm : refAt R k ∈ R := by rw [refAt_is hk]; exact List.getElem_mem _
    refine ih (h.set _ (y := { refAt R k with si := now }) (h.tr (refAt R k) hm) (h.who (refAt R k) hm) (h.sb (refAt R k) hm) hn) (fun x hx => ?_)
    rw [List.length_set]
    exact hl x (List.mem_cons_of_mem _ hx)
theorem Rin.choose {ts : List Trk} {R : List Rfm} (h : Rin ts R) {now : Int} (hn : soon now) (t : Trk) (S : Vs) (i : Int) : Rin ts (chooseR t R S i now) := h.sel hn (fun x hx => mem_chosen hx)
end Go.Proofs.YtpkamfbjgdmmoaaGreat
end

section
namespace Go.Proofs.YtpkamfbjgdmmoaaGreat
open Go.RowKit Go.Maps Go.Shelf
attribute [local go_sem] Oper.semAt_some
set_option linter.unusedVariables false
set_option linter.unusedSimpArgs false

theorem cho_two (W0 : World) (o1 o2 : Obj) : ((W0.alloc o1).alloc o2).drew.heap[W0.heap.size]? = some o1 ∧ ((W0.alloc o1).alloc o2).drew.heap[W0.heap.size + 1]? = some o2 := by
  have h2 := World.alloc_heap_new (W0.alloc o1) o2
  rw [World.size_alloc] at h2
  exact ⟨(Below.heap_alloc _ _ _ (by simp)).trans (World.alloc_heap_new _ _), h2⟩
theorem cho_row (V : World) (b j : Nat) (cs : Array Value) (h : j ≠ b) : (V.setRow b cs).heap[j]? = V.heap[j]? := by
  simp only [World.setRow, Array.getElem?_modify]
  rw [if_neg (fun e => h e.symm)]
theorem cho_rowAt {W : World} {b : Nat} {C : Array Value} {T : TypeId} (cs : Array Value) (h : W.heap[b]? = some (.cells C T (0, 0))) : (W.setRow b cs).heap[b]? = some (.cells cs T (0, 0)) := by
  simp [World.setRow, Array.getElem?_modify, h]
theorem cho_old (W0 : World) (o1 o2 : Obj) (j : Nat) (hj : j < W0.heap.size) : ((W0.alloc o1).alloc o2).drew.heap[j]? = W0.heap[j]? := (Below.heap_alloc _ _ _ (by simp; omega)).trans (Below.heap_alloc _ _ _ hj)
theorem cho_oldR (W0 : World) (o1 o2 : Obj) (b : Nat) (cs : Array Value) (hb : W0.heap.size ≤ b) (j : Nat) (hj : j < W0.heap.size) : (((W0.alloc o1).alloc o2).drew.setRow b cs).heap[j]? = W0.heap[j]? := (cho_row _ b j cs (by omega)).trans (cho_old W0 o1 o2 j hj)
theorem cho_cells1 (W0 : World) (Z cs : Array Value) : (((W0.alloc (.cells Z 26)).alloc (.cells #[.int .i64 0] 3)).drew.setRow W0.heap.size cs).cell? ⟨W0.heap.size + 1, 0, none⟩ = some (.int .i64 0) ∧ (((W0.alloc (.cells Z 26)).alloc (.cells #[.int .i64 0] 3)).drew.setRow W0.heap.size cs).frozen? ⟨W0.heap.size + 1, 0, none⟩ = false := by
  have h := (cho_row _ W0.heap.size (W0.heap.size + 1) cs (by omega)).trans (cho_two W0 (.cells Z 26) (.cells #[.int .i64 0] 3)).2
  exact ⟨by rw [World.cell?, h]; rfl, by rw [World.frozen?, h]; rfl⟩
theorem cho_cells2 (W0 : World) (Z cs : Array Value) : (((W0.alloc (.cells #[.int .i64 0] 3)).alloc (.cells Z 26)).drew.setRow (W0.heap.size + 1) cs).cell? ⟨W0.heap.size, 0, none⟩ = some (.int .i64 0) ∧ (((W0.alloc (.cells #[.int .i64 0] 3)).alloc (.cells Z 26)).drew.setRow (W0.heap.size + 1) cs).frozen? ⟨W0.heap.size, 0, none⟩ = false := by
  have h := (cho_row _ (W0.heap.size + 1) W0.heap.size cs (by omega)).trans (cho_two W0 (.cells #[.int .i64 0] 3) (.cells Z 26)).1
  exact ⟨by rw [World.cell?, h]; rfl, by rw [World.frozen?, h]; rfl⟩
/-- Behind the region: a track's copy, and a number that is 0. -/
def ChoEnd (W0 : World) (t : Trk) (b8 b9 : Nat) (wx : World) : Prop :=
  wx.heap[b8]? = some (.cells (trkR.f t).toArray 26 (0, 0)) ∧ Boxed wx b9 3 (.int .i64 0) ∧ Below W0.heap.size W0 wx ∧ W0.heap.size ≤ b8 ∧ W0.heap.size ≤ b9
theorem cho_end {W0 V : World} {t : Trk} {b8 b9 : Nat} (h8 : V.heap[b8]? = some (.cells (trkR.f t).toArray 26 (0, 0))) (h9 : V.heap[b9]? = some (.cells #[.int .i64 0] 3 (0, 0))) (hb : Below W0.heap.size W0 V) (hne : b8 ≠ b9) (l8 : W0.heap.size ≤ b8) (l9 : W0.heap.size ≤ b9) : ChoEnd W0 t b8 b9 (V.setCell ⟨b9, 0, none⟩ (.int .i64 0)) := by
  refine ⟨(Below.heap_setCell _ _ _ b8 hne).trans h8, (show Boxed V b9 3 (.int .i64 0) from h9).set _, ?_, l8, l9⟩
  exact hb.trans ⟨rfl, rfl, rfl, by simp [World.setCell], fun k hk => Below.heap_setCell _ _ _ k (by show k ≠ b9; omega)⟩
theorem cho_end1 (W0 : World) (Z : Array Value) (t : Trk) : ChoEnd W0 t W0.heap.size (W0.heap.size + 1) ((((W0.alloc (.cells Z 26)).alloc (.cells #[.int .i64 0] 3)).drew.setRow W0.heap.size (trkR.f t).toArray).setCell ⟨W0.heap.size + 1, 0, none⟩ (.int .i64 0)) := by
  obtain ⟨h1, h2⟩ := cho_two W0 (.cells Z 26) (.cells #[.int .i64 0] 3)
  refine cho_end (cho_rowAt _ h1) ((cho_row _ _ _ _ (by omega)).trans h2) ?_ (by omega) (Nat.le_refl _) (by omega)
  exact ⟨rfl, rfl, rfl, by simp [World.setRow, World.drew]; omega, fun k hk => cho_oldR W0 _ _ _ _ (Nat.le_refl _) k hk⟩
theorem cho_end2 (W0 : World) (Z : Array Value) (t : Trk) : ChoEnd W0 t (W0.heap.size + 1) W0.heap.size ((((W0.alloc (.cells #[.int .i64 0] 3)).alloc (.cells Z 26)).drew.setRow (W0.heap.size + 1) (trkR.f t).toArray).setCell ⟨W0.heap.size, 0, none⟩ (.int .i64 0)) := by
  obtain ⟨h1, h2⟩ := cho_two W0 (.cells #[.int .i64 0] 3) (.cells Z 26)
  refine cho_end (cho_rowAt _ h2) ((cho_row _ _ _ _ (by omega)).trans h1) ?_ (by omega) (by omega) (Nat.le_refl _)
  exact ⟨rfl, rfl, rfl, by simp [World.setRow, World.drew]; omega, fun k hk => cho_oldR W0 _ _ _ _ (by omega) k hk⟩
/-- What choose's range holds. -/
def ChI (t : Trk) (i now : Int) (N0 b9 wb : Nat) (w2 : World) (pre : List (Int × Rfm)) (Φ : FP) (W : World) : Prop :=
  ∃ v, Boxed W b9 3 (.int .i64 (decP i pre)) ∧ Boxed W wb 22 v ∧ OwnN N0 v (waitP t i now pre) W ∧ (∀ k, Φ k ↔ v.ownBlock = some k) ∧ (∀ k, k < N0 → k ≠ b9 → k ≠ wb → W.heap[k]? = w2.heap[k]?) ∧ N0 ≤ W.heap.size
section
variable {t : Trk} {i now : Int} {N0 b9 wb : Nat} {w2 W V W' : World} {pre : List (Int × Rfm)} {Φ : FP} {x : Int × Rfm}
theorem ChI.stab (h1 : b9 < N0) (h2 : wb < N0) : Stab N0 (ChI t i now N0 b9 wb w2) := by
  rintro pre Φ W ⟨v, e1, e2, e3, e4, e5, e6⟩
  exact ⟨fun k hk => e3.block ((e4 k).1 hk), e6, fun W' hg hk => ⟨v, (hk b9 (.inl h1)).trans e1, (hk wb (.inl h2)).trans e2, e3.of (Nat.le_refl _) (fun k e => hk k (.inr ((e4 k).2 e))), e4, fun k hk' h3 h4 => (hk k (.inl hk')).trans (e5 k hk' h3 h4), Nat.le_trans e6 hg.size⟩⟩
theorem ChI.skip (h : ChI t i now N0 b9 wb w2 pre Φ W) (hd : isDec i x.2 = false) (hw : isWait t i now x.2 = false) (hb : Below W.heap.size W W') (h1 : b9 < N0) (h2 : wb < N0) : Leaves (fun k => k = b9 ∨ k = wb) Φ W (fun Φ' W' => ChI t i now N0 b9 wb w2 (pre ++ [x]) Φ' W') W' := by
  obtain ⟨v, e1, e2, e3, e4, e5, e6⟩ := h
  refine ⟨Φ, fun k hk => .inl hk, Only.of_later hb, v, ?_, ?_, ?_, e4, fun k hk h3 h4 => (hb.block k (by omega)).trans (e5 k hk h3 h4), Nat.le_trans e6 hb.size⟩
  · rw [decP_snoc, hd]; exact (hb.block b9 (by omega)).trans e1
  · exact (hb.block wb (by omega)).trans e2
  · rw [waitP_snoc, hw]
    simp only [Bool.false_eq_true, if_false, List.append_nil]
    exact e3.of (Nat.le_refl _) (fun k hk => hb.block k (e3.block hk).2)
theorem ChI.dec (h : ChI t i now N0 b9 wb w2 pre Φ W) (hd : isDec i x.2 = true) (hw : isWait t i now x.2 = false) (hne : b9 ≠ wb) (h1 : b9 < N0) (h2 : wb < N0) : Leaves (fun k => k = b9 ∨ k = wb) Φ W (fun Φ' W' => ChI t i now N0 b9 wb w2 (pre ++ [x]) Φ' W') (W.setCell ⟨b9, 0, none⟩ (.int .i64 ((decP i pre : Nat) + 1))) := by
  obtain ⟨v, e1, e2, e3, e4, e5, e6⟩ := h
  have ho : ∀ k, k ≠ b9 → (W.setCell ⟨b9, 0, none⟩ (.int .i64 ((decP i pre : Nat) + 1))).heap[k]? = W.heap[k]? := fun k hk => Below.heap_setCell _ _ _ k hk
  refine ⟨Φ, fun k hk => .inl hk, ⟨⟨rfl, rfl, rfl, by simp [World.setCell]⟩, fun k hk h3 h4 => ho k (fun e => h3 (.inl e))⟩, v, ?_, ?_, ?_, e4, fun k hk h3 h4 => (ho k h3).trans (e5 k hk h3 h4), by simp [World.setCell]; exact e6⟩
  · rw [decP_snoc, hd, if_pos rfl]
    exact e1.set _
  · exact (ho wb hne.symm).trans e2
  · rw [waitP_snoc, hw]
    simp only [Bool.false_eq_true, if_false, List.append_nil]
    exact e3.of (Nat.le_refl _) (fun k hk => ho k (by have := (e3.block hk).1; omega))
theorem ChI.app {v v' : Value} {w3 : World} (e1 : Boxed W b9 3 (.int .i64 (decP i pre))) (e2 : Boxed W wb 22 v) (e3 : OwnN N0 v (waitP t i now pre) W) (e4 : ∀ k, Φ k ↔ v.ownBlock = some k) (e5 : ∀ k, k < N0 → k ≠ b9 → k ≠ wb → W.heap[k]? = w2.heap[k]?) (e6 : N0 ≤ W.heap.size) (hd : isDec i x.2 = false) (hw : isWait t i now x.2 = true) (hne : b9 ≠ wb) (h1 : b9 < N0) (h2 : wb < N0)
    (hV : Below W.heap.size W V) (hO : OwnN N0 v' (waitP t i now pre ++ [x.1]) w3) (hg : V.grownBy w3 v.ownBlock) (hat : v'.ownBlock = v.ownBlock ∨ v'.ownBlock = some V.heap.size) : Leaves (fun k => k = b9 ∨ k = wb) Φ W (fun Φ' W' => ChI t i now N0 b9 wb w2 (pre ++ [x]) Φ' W') (w3.setCell ⟨wb, 0, none⟩ v') := by
  have hsV := hV.size
  have hsg := hg.size
  have hk3 : ∀ k, k < W.heap.size → v.ownBlock ≠ some k → w3.heap[k]? = W.heap[k]? := fun k hk hn => (hg.block k (by omega) (fun e => hn e.symm)).trans (hV.block k hk)
  have hnv : ∀ k, k < N0 → v.ownBlock ≠ some k := fun k hk e => by have := (e3.block e).1; omega
  have ho : ∀ k, k ≠ wb → (w3.setCell ⟨wb, 0, none⟩ v').heap[k]? = w3.heap[k]? := fun k hk => Below.heap_setCell _ _ _ k hk
  have x2 : Boxed w3 wb 22 v := (hk3 wb (by omega) (hnv wb h2)).trans e2
  refine ⟨fun k => v'.ownBlock = some k, fun k hk => ?_, ⟨⟨hg.os.trans hV.os, hg.tape.trans hV.tape, hg.output.trans hV.output, by simp [World.setCell]; omega⟩, fun k hk h3 h4 => ?_⟩, v', ?_, x2.set _, ?_, fun k => Iff.rfl, fun k hk h3 h4 => (ho k h4).trans ((hk3 k (by omega) (hnv k hk)).trans (e5 k hk h3 h4)), by simp [World.setCell]; omega⟩
  · rcases hat with e | e
    · exact .inl ((e4 k).2 (by rw [← e]; exact hk))
    · rw [hk] at e
      injection e with e
      exact .inr (by omega)
  · exact (ho k (fun e => h3 (.inr e))).trans (hk3 k hk (fun e => h4 ((e4 k).2 e)))
  · rw [decP_snoc, hd]
    exact (ho b9 hne).trans ((hk3 b9 (by omega) (hnv b9 h1)).trans e1)
  · rw [waitP_snoc, hw, if_pos rfl]
    exact hO.of (Nat.le_refl _) (fun k hk => ho k (by have := (hO.block hk).1; omega))
end
set_option maxHeartbeats 8000000 in
set_option maxRecDepth 100000 in
attribute [local go_sem ↓] alloc_trk load_trk store_trk loadSt_R_hide in
theorem refer_choose {r g vb N : Nat} {ts : List Trk} {R : List Rfm} {S : Vs} {A : Acc} {M : Cls Int} {Z : FP} {w : World} (h : RvAt r g vb N ts R S A M Z w) (hi : Rin ts R) {k : Nat} (hk : k < ts.length) {now : Int} (hn : soon now) :
    Calls Tryz.prog 56 #[.pointer (some ⟨r, 0, none⟩), .pointer (some ⟨vb, 0, none⟩), .int .i64 k, .int .i64 now] w fun e w' => (∃ u, e = .returned u) ∧ RvTo r g vb N ts (chooseR ts[k] R S k now) S A M Z w w' := by
  obtain ⟨vp, hvp⟩ : ∃ vp : Option Addr, vp = some ⟨vb, 0, none⟩ := ⟨_, rfl⟩
  rw [← hvp]
  refine (callsIn_wide (n := 2)).1 ?_
  have hre := h
  obtain ⟨FR, hrx, -⟩ := h.re
  obtain ⟨tb, cap, gb, hc0, -, h2, h6⟩ := hrx.cells
  have hrlt : r < w.heap.size := hrx.lt hrx.own
  obtain ⟨n, hn'⟩ : ∃ n, n = ts.length := ⟨_, rfl⟩
  have hkn : (k : Int) < n := by omega
  obtain ⟨Z0, hZ, hZs⟩ := zeroTrk
  have RA := run_allocTrk hZ
  obtain ⟨t, ht⟩ : ∃ t, t = ts[k] := ⟨_, rfl⟩
  have hok : trackB t = true := by rw [ht]; exact hi.ok _ (List.getElem_mem _)
  have hr0 := trk_at h2 hk
  rw [← ht] at hr0 ⊢
  rw [← hn'] at hc0
  have HRE := Lib.hid (And.intro hre (And.intro hi (And.intro hn (And.intro hok hvp))))
  have HR0 := Lib.hid (And.intro hr0 h6)
  have HC0 := Lib.hid (And.intro hc0 hrlt)
  clear h hre hrx hc0 hrlt h2 h6 hr0 hn' ht hZ hi hn hok hk hvp
  refine callsIn_of_wp_marks Tryz.func56 rfl trivial ?_ rfl
  simp only [Tryz.ntmps56, List.size_toArray, List.length_cons, List.length_nil, Nat.reduceAdd, Nat.reduceSub, Array.replicate_succ, Array.replicate_zero, List.push_toArray, List.append_toArray, List.nil_append, List.cons_append]
  gi_wp2_with fail
  obtain ⟨W0, hW0⟩ : ∃ W0, W0 = ((w.alloc (.cells #[.pointer vp] 34)).alloc (.cells #[.int .i64 k] 3)).alloc (.cells #[.int .i64 now] 3) := ⟨_, rfl⟩
  rw [← hW0]
  obtain ⟨p5, hp5⟩ : ∃ p5, p5 = w.heap.size := ⟨_, rfl⟩
  obtain ⟨p6, hp6⟩ : ∃ p6, p6 = p5 + 1 := ⟨_, rfl⟩
  obtain ⟨p7, hp7⟩ : ∃ p7, p7 = p6 + 1 := ⟨_, rfl⟩
  rw [← hp5, ← hp6, ← hp7]
  have hb0 : Below w.heap.size w W0 := by rw [hW0]; exact (((Below.refl _ w).alloc (Nat.le_refl _) _).alloc (by simp) _).alloc (by simp; omega) _
  have hsz : W0.heap.size = w.heap.size + 3 := by rw [hW0]; simp
  have hrl : r < w.heap.size := HC0.out.2
  have c0 : W0.cell? ⟨r, 0, none⟩ = some (.slice (some ⟨tb, 0, none⟩) n cap) := by rw [hb0.cell (p := ⟨r, 0, none⟩) hrl]; exact HC0.out.1
  have c6 : W0.cell? ⟨p6, 0, none⟩ = some (.int .i64 k) := by
    have e := World.alloc_heap_new (w.alloc (.cells #[.pointer vp] 34)) (.cells #[.int .i64 k] 3)
    rw [World.size_alloc] at e
    rw [hW0, hp6, hp5, World.cell?, Below.heap_alloc _ _ _ (by simp), e]; rfl
  have hkr : ∀ W' : World, (∀ j, j < W0.heap.size → W'.heap[j]? = W0.heap[j]?) → W'.cell? ⟨r, 0, none⟩ = some (.slice (some ⟨tb, 0, none⟩) n cap) ∧ W'.cell? ⟨p6, 0, none⟩ = some (.int .i64 k) ∧ (loadTrk (.pointer (some ⟨tb, k * 18, none⟩))).run Tryz.prog W' = .ok (.agg (trkR.f t).toArray) W' := fun W' he =>
    ⟨(World.cell?_of_block (a := ⟨r, 0, none⟩) (he r (by omega))).trans c0, (World.cell?_of_block (a := ⟨p6, 0, none⟩) (he p6 (by omega))).trans c6, run_loadTrk (rangeAt_block (rangeAt_block HR0.out.1 (hb0.block tb HR0.out.2)) (he tb (by have := HR0.out.2; omega)))⟩
  have HKR := Lib.hid hkr
  have HW0 := Lib.hid (And.intro hb0 (And.intro hsz hW0))
  have HPP := Lib.hid (And.intro hp5 (And.intro hp6 hp7))
  clear hkr hb0 hsz hW0 c0 c6 hp5 hp6 hp7 hrl
  have ST1 := run_storeTrk (t := t) (cho_two W0 (.cells Z0 26) (.cells #[.int .i64 0] 3)).1 hZs
  have ST2 := run_storeTrk (t := t) (cho_two W0 (.cells #[.int .i64 0] 3) (.cells Z0 26)).2 hZs
  have SA1 := fun cs => (cho_cells1 W0 Z0 cs).1
  have SB1 := fun cs => (cho_cells1 W0 Z0 cs).2
  have SA2 := fun cs => (cho_cells2 W0 Z0 cs).1
  have SB2 := fun cs => (cho_cells2 W0 Z0 cs).2
  have K0 := Lib.hid (HKR.out W0.drew (fun _ _ => rfl))
  have K1 := Lib.hid (HKR.out (W0.alloc (.cells Z0 26)).drew (fun j hj => Below.heap_alloc _ _ _ hj))
  have K2 := Lib.hid (HKR.out (W0.alloc (.cells #[.int .i64 0] 3)).drew (fun j hj => Below.heap_alloc _ _ _ hj))
  have K3 := Lib.hid (HKR.out _ (cho_old W0 (.cells Z0 26) (.cells #[.int .i64 0] 3)))
  have K4 := Lib.hid (HKR.out _ (cho_old W0 (.cells #[.int .i64 0] 3) (.cells Z0 26)))
  have K5 := Lib.hid (HKR.out _ (cho_oldR W0 (.cells Z0 26) (.cells #[.int .i64 0] 3) W0.heap.size (trkR.f t).toArray (Nat.le_refl _)))
  have K6 := Lib.hid (HKR.out _ (cho_oldR W0 (.cells #[.int .i64 0] 3) (.cells Z0 26) (W0.heap.size + 1) (trkR.f t).toArray (Nat.le_succ _)))
  have K7 := Lib.hid (HKR.out _ (fun j hj => (cho_end1 W0 Z0 t).2.2.1.block j hj))
  have K8 := Lib.hid (HKR.out _ (fun j hj => (cho_end2 W0 Z0 t).2.2.1.block j hj))
  refine region_meet (R := fun a wx => ∃ b8 b9, a = { tmps := #[.pointer (some ⟨r, 0, none⟩), .pointer vp, .int .i64 k, .int .i64 now, undef, .pointer (some ⟨p5, 0, none⟩), .pointer (some ⟨p6, 0, none⟩), .pointer (some ⟨p7, 0, none⟩), .pointer (some ⟨b8, 0, none⟩), .pointer (some ⟨b9, 0, none⟩), undef, undef, undef, undef, undef, undef, undef, .pointer (some ⟨r, 0, none⟩), .pointer (some ⟨r, 0, none⟩), .pointer (some ⟨r, 0, none⟩), .slice (some ⟨tb, 0, none⟩) n cap, .int .i64 k, .pointer (some ⟨tb, k * 18, none⟩), .agg (trkR.f t).toArray, undef, undef, undef, undef, undef, undef, undef, undef, undef, undef, undef, undef, undef, undef, undef, undef, undef, undef, undef, undef, undef, undef, undef, undef, undef, undef, undef, undef, undef, undef, undef, undef, undef, undef, undef, undef, undef, undef, undef, undef, undef, undef, undef, undef, undef, undef, undef, undef, undef, undef, undef, undef, undef, undef, undef, undef, undef, undef, undef, undef, undef, undef, undef, undef, undef, undef, undef, undef], defers := [] } ∧ ChoEnd W0 t b8 b9 wx) ?h1 ?h2
  case h1 => as_aux_lemma =>
    go_region_held3 (fun w' => w'.cell? ⟨r, 0, none⟩ = some (.slice (some ⟨tb, 0, none⟩) n cap) ∧ w'.cell? ⟨p6, 0, none⟩ = some (.int .i64 k) ∧ (loadTrk (.pointer (some ⟨tb, k * 18, none⟩))).run Tryz.prog w' = .ok (.agg (trkR.f t).toArray) w') (first | exact K0.out | exact K1.out | exact K2.out | exact K3.out | exact K4.out | exact K5.out | exact K6.out | exact K7.out | exact K8.out) (fail)
    all_goals first
      | exact ⟨_, _, rfl, cho_end1 W0 Z0 t⟩
      | exact ⟨_, _, rfl, cho_end2 W0 Z0 t⟩
  case h2 =>
    rintro _ wx ⟨b8, b9, rfl, h8, h9, hbx, l8, l9⟩
    have hbw : Below w.heap.size w wx := HW0.out.1.trans (hbx.mono HW0.out.1.size)
    obtain ⟨wb, hwb⟩ : ∃ wb, wb = wx.heap.size := ⟨_, rfl⟩
    obtain ⟨W1, hW1⟩ : ∃ W1, W1 = wx.alloc (.cells #[.slice none 0 0] 22) := ⟨_, rfl⟩
    have hb1 : Below wx.heap.size wx W1 := by rw [hW1]; exact (Below.refl _ wx).alloc (Nat.le_refl _) _
    have x10 : Boxed W1 wb 22 (.slice none 0 0) := by rw [hW1, hwb]; exact Boxed.new wx _ _
    have hs1 : W1.heap.size = wb + 1 := by rw [hW1, hwb]; simp
    have b8l : b8 < wx.heap.size := (Array.getElem?_eq_some_iff.1 h8).1
    have b9l : b9 < wx.heap.size := h9.lt
    have h8' : W1.heap[b8]? = some (.cells (trkR.f t).toArray 26 (0, 0)) := (hb1.block b8 b8l).trans h8
    have h9' : Boxed W1 b9 3 (.int .i64 0) := (hb1.block b9 b9l).trans h9
    have hbw1 : Below w.heap.size w W1 := hbw.trans (hb1.mono hbw.size)
    obtain ⟨hp5, hp6, hp7⟩ := HPP.out
    obtain ⟨-, hsz0, hW0⟩ := HW0.out
    have x5 : Boxed W0 p5 34 (.pointer vp) := by rw [hW0, hp5]; exact ((Boxed.new w _ _).alloc _).alloc _
    have x6 : Boxed W0 p6 3 (.int .i64 k) := by
      have := Boxed.new (w.alloc (.cells #[.pointer vp] 34)) 3 (.int .i64 k)
      rw [World.size_alloc] at this
      rw [hW0, hp6, hp5]; exact this.alloc _
    have x7 : Boxed W0 p7 3 (.int .i64 now) := by
      have := Boxed.new ((w.alloc (.cells #[.pointer vp] 34)).alloc (.cells #[.int .i64 k] 3)) 3 (.int .i64 now)
      rw [World.size_alloc, World.size_alloc] at this
      rw [hW0, hp7, hp6, hp5]; exact this
    have hb01 : Below W0.heap.size W0 W1 := hbx.trans (hb1.mono hbx.size)
    have y5 : Boxed W1 p5 34 (.pointer vp) := (hb01.block p5 (by omega)).trans x5
    have y6 : Boxed W1 p6 3 (.int .i64 k) := (hb01.block p6 (by omega)).trans x6
    have y7 : Boxed W1 p7 3 (.int .i64 now) := (hb01.block p7 (by omega)).trans x7
    obtain ⟨hrv, hin, hnow, hok, hvp⟩ := HRE.out
    obtain ⟨FR1, hre1, -⟩ := (hrv.below hbw1).re
    have hall := refer_All hre1 (by have := hin.len; omega)
    have hbs := hbx.size
    have hnb : b9 ≠ wb ∧ b8 ≠ wb ∧ p5 ≠ wb ∧ p6 ≠ wb ∧ p7 ≠ wb ∧ p5 ≠ b9 ∧ p6 ≠ b9 ∧ p7 ≠ b9 ∧ w.heap.size ≤ b9 ∧ w.heap.size ≤ wb ∧ w.heap.size ≤ p5 ∧ p5 < W1.heap.size ∧ p6 < W1.heap.size ∧ p7 < W1.heap.size ∧ b8 < W1.heap.size ∧ b9 < W1.heap.size ∧ wb < W1.heap.size := by omega
    have hb89 : b8 ≠ b9 := fun e => by
      have a1 := h8'
      have a2 : W1.heap[b9]? = some (.cells #[.int .i64 0] 3 (0, 0)) := h9'
      rw [e, a2] at a1
      injection a1 with a1
      injection a1 with a1 a2 a3
      have h18 : (trkR.f t).toArray.size = 18 := by rw [List.size_toArray, trkR.len]; rfl
      first | rw [← a1] at h18 | rw [a1] at h18
      simp at h18
    have H1 := Lib.hid (And.intro x10 (And.intro h8' (And.intro h9' (And.intro hbw1 (And.intro y5 (And.intro y6 (And.intro y7 (And.intro hnb hb89))))))))
    have HW1 := Lib.hid hW1
    have HWB := Lib.hid hwb
    have HALL := Lib.hid hall
    clear h8 h9 hbx l8 l9 hbw hW1 hb1 x10 b8l b9l h8' h9' hre1 hwb ST1 ST2 SA1 SB1 SA2 SB2 K0 K1 K2 K3 K4 K5 K6 K7 K8 RA hZs hkn hs1 hbw1 hp5 hp6 hp7 hsz0 hW0 x5 x6 x7 hb01 y5 y6 y7 hrv hin hnow hok hvp hall hbs hnb hb89
    gi_wp2_with (first
      | (refine ⟨trivial, ?_⟩; gi_at_call 57; rw [← HW1.out]; refine (callsIn_wide.2 HALL.out).mono ?_; rintro e w2 ⟨ab, v2, rfl, hbx, ho, hl, hb⟩; have H2 := Lib.hid (And.intro hbx (And.intro ho (And.intro hl hb))); clear hbx ho hl hb)
      | (gi_at_call 57; rw [← HW1.out]; refine (callsIn_wide.2 HALL.out).mono ?_; rintro e w2 ⟨ab, v2, rfl, hbx, ho, hl, hb⟩; have H2 := Lib.hid (And.intro hbx (And.intro ho (And.intro hl hb))); clear hbx ho hl hb)
      | fail)
    rw [← HWB.out]
    obtain ⟨hab, ho2, hl2, hb2⟩ := H2.out
    obtain ⟨x10, h8, h9, hbw1, y5, y6, y7, hnb, hb89⟩ := H1.out
    obtain ⟨hrv, hin, hnow, hok, hvp⟩ := HRE.out
    obtain ⟨n1, n2, n3, n4, n5, n6, n7, n8, n9, n10, n11, n12, n13, n14, n15, n16, n17⟩ := hnb
    have hs2 := hb2.size
    have hit := now1_iter_R 0 ab v2 (rowR 0 R) w2 hab ho2.reads (by rw [rowR_len]; have := hin.len; omega) (fun k => k = ab ∨ v2.ownBlock = some k) (.inl rfl) (fun k hk => .inr hk)
    have hGl : ∀ k, (k = ab ∨ v2.ownBlock = some k) → k < w2.heap.size := fun k hk => hk.elim (fun e => by rw [e]; exact hab.lt) (fun e => (ho2.block e).2)
    have hGn : ∀ k, (k = ab ∨ v2.ownBlock = some k) → W1.heap.size ≤ k := fun k hk => hk.elim (fun e => by omega) (fun e => by have := (ho2.block e).1; omega)
    have l9 : b9 < w2.heap.size := by omega
    have lw : wb < w2.heap.size := by omega
    have i9 : Boxed w2 b9 3 (.int .i64 0) := (hb2.block b9 n16).trans h9
    have iw : Boxed w2 wb 22 (.slice none 0 0) := (hb2.block wb n17).trans x10
    have i8 : w2.heap[b8]? = some (.cells (trkR.f t).toArray 26 (0, 0)) := (hb2.block b8 n15).trans h8
    have i5 : Boxed w2 p5 34 (.pointer vp) := (hb2.block p5 n12).trans y5
    have i6 : Boxed w2 p6 3 (.int .i64 k) := (hb2.block p6 n13).trans y6
    have i7 : Boxed w2 p7 3 (.int .i64 now) := (hb2.block p7 n14).trans y7
    have HI2 := Lib.hid (And.intro i8 (And.intro i5 (And.intro i6 (And.intro i7 (And.intro (hbw1.trans (hb2.mono hbw1.size)) (show p5 < w2.heap.size ∧ p6 < w2.heap.size ∧ p7 < w2.heap.size ∧ b8 < w2.heap.size by omega))))))
    have HNB := Lib.hid (And.intro n1 (And.intro n2 (And.intro n3 (And.intro n4 (And.intro n5 (And.intro n6 (And.intro n7 (And.intro n8 (And.intro hb89 (And.intro n9 n10))))))))))
    have HL9 := Lib.hid (And.intro l9 lw)
    have hpd : ∀ x ∈ rowR 0 R, soon x.2.sb := fun x hx => by
      obtain ⟨j, hj, -⟩ := mem_rowR.1 hx
      exact hin.sb _ (List.mem_of_getElem? hj)
    have hpr : 0 ≤ t.prep ∧ t.prep ≤ 1000 := by
      simp only [trackB, Bool.and_eq_true] at hok
      exact withinB_out hok.1.1.1.1.1.1.2
    have hmo : 1 ≤ t.most ∧ t.most ≤ 12 := by
      simp only [trackB, Bool.and_eq_true] at hok
      exact withinB_out hok.1.1.1.1.1.1.1.1.1
    have HPD := Lib.hid (And.intro hpd (And.intro hnow (And.intro hpr (And.intro hmo (show (rowR 0 R).length ≤ 12 by rw [rowR_len]; exact hin.len)))))
    clear hpd hpr hmo hrv hin hnow hok hvp y5 y6 y7 x10 h8 h9 hbw1 i8 i5 i6 i7 hb89 hab ho2 hl2 hb2 hs2 n2 n3 n4 n5 n6 n7 n8 n9 n10 n11 n12 n13 n14 n15
    refine range_outerAU (n := 0) (gf := 119) (lb := #[.pointer (some ⟨ab, 0, none⟩)]) rfl enters_now_R hit (Grow.refl w2) (fun k hk => ⟨hGl k hk, rfl⟩) (fun _ => rfl)
      (fun k => k = b9 ∨ k = wb) (by rintro k (rfl | rfl); exact ⟨l9, fun hg => by have := hGn _ hg; omega⟩; exact ⟨lw, fun hg => by have := hGn _ hg; omega⟩) (ChI t k now w2.heap.size b9 wb w2) (fun _ _ _ _ => False) (ChI.stab l9 lw) (fun c _ _ _ h => h.elim)
      ⟨.slice none 0 0, i9, iw, OwnN.nil _ _, fun k => ⟨fun h => h.elim, fun h => by cases h⟩, fun _ _ _ _ => rfl, Nat.le_refl _⟩
      (fun x N T => (((T.setIfInBounds 26 (.int .i64 x.1)).setIfInBounds 27 (.agg (rfS.f x.2).toArray)).setIfInBounds 11 (.int .i64 x.1)).setIfInBounds 12 (.pointer (some ⟨N, 0, none⟩)))
      (fun x N W => W.heap[N]? = some (.cells (rfS.f x.2).toArray 56 (0, 0))) (fun x N W W' h e => e.trans h) ?assign ?body ?done ?stop
    case stop => exact fun _ _ _ _ _ _ h => h.elim
    case assign =>
      intro l x W K hK
      simp only [encs_R]
      gi_wp2_with (first
        | (refine wplIn_allocS (s := rfS) rfl rfl rfl ?_)
        | (refine wplIn_storeS (s := rfS) (t := x.2) (b := W.heap.size) _ _ rfl rfl rfl rfl rfl (World.alloc_heap_new W _) (zeroS rfS) ?_; rw [newS])
        | fail)
      exact hK _ ((Below.refl _ W).alloc (Nat.le_refl _) _) (by simp) (World.alloc_heap_new _ _)
    case body => as_aux_lemma =>
      rintro l pre x Φ Nx W hpx hJ hl hΦ - hlN hNW hAt
      have hxm : x ∈ rowR 0 R := hpx.subset (by simp)
      have hJ0 := hJ
      obtain ⟨v, e1, e2, e3, e4, e5, e6⟩ := hJ
      obtain ⟨i8, i5, i6, i7, hbw, q5, q6, q7, q8⟩ := HI2.out
      obtain ⟨n1, n2, n3, n4, n5, n6, n7, n8, hb89, n9, n10⟩ := HNB.out
      have c9 := e1.cell
      have f9 := e1.frozen
      have cw := e2.cell
      have fw := e2.frozen
      have c6 : W.cell? ⟨p6, 0, none⟩ = some (.int .i64 k) := Boxed.cell (t := 3) ((e5 p6 q6 n7 n4).trans i6)
      have c7 : W.cell? ⟨p7, 0, none⟩ = some (.int .i64 now) := Boxed.cell (t := 3) ((e5 p7 q7 n8 n5).trans i7)
      have hr8 : W.rangeAt b8 0 (trkR.f t) := rangeAt_whole (T := 26) ((e5 b8 q8 hb89 n2).trans i8)
      have c82 : W.cell? ⟨b8, 2, none⟩ = some (.int .i64 t.prep) := by have := hr8 2 _ (show (trkR.f t)[2]? = some (.int .i64 t.prep) from rfl); rwa [Nat.zero_add] at this
      obtain ⟨x0, x1, -, x35, -, -, x38, x39, -, -⟩ := rf_at (rangeAt_whole (T := 56) hAt)
      have hsb := HPD.out.1 x hxm
      obtain ⟨hnow, hpr, hmo, hln⟩ := HPD.out.2
      obtain ⟨st, hst⟩ : ∃ st, st = x.2.st := ⟨_, rfl⟩
      obtain ⟨tr, htr⟩ : ∃ tr, tr = x.2.tr := ⟨_, rfl⟩
      obtain ⟨sb, hsb'⟩ : ∃ sb, sb = x.2.sb := ⟨_, rfl⟩
      obtain ⟨bk, hbk⟩ : ∃ bk, bk = x.2.bk := ⟨_, rfl⟩
      obtain ⟨si, hsi⟩ : ∃ si, si = x.2.si := ⟨_, rfl⟩
      obtain ⟨pp, hpp⟩ : ∃ pp, pp = t.prep := ⟨_, rfl⟩
      have eD : isDec k x.2 = (decide (st = 1) && decide (tr = k) && !decide (si = -1)) := by unfold isDec; rw [hst, htr, hsi]
      have eW : isWait t k now x.2 = (decide (st = 1) && decide (tr = k) && decide (si = -1) && !decide (bk = -1) && decide (pp ≤ now - sb)) := by unfold isWait; rw [hst, htr, hsi, hbk, hsb', hpp]
      rw [← hst] at x0
      rw [← htr] at x1
      rw [← hsb'] at x35 hsb
      rw [← hbk] at x38
      rw [← hsi] at x39
      rw [← hpp] at c82 hpr
      unfold soon at hnow hsb
      have wr1 := fun (_ : True) => (show IntKind.i64.wrap (now - sb) = now - sb from IntWalk.i64_in _ (by omega))
      obtain ⟨d, hd⟩ : ∃ d, d = decP k pre := ⟨_, rfl⟩
      have hdl : d ≤ 12 := by rw [hd]; have h1 := decP_le k pre; have h2 := hpx.length_le; rw [List.length_append, List.length_singleton] at h2; omega
      rw [← hd] at c9
      have hwl : (waitP t k now pre).length ≤ 100000 := by have h1 := waitP_len t k now pre; have h2 := hpx.length_le; rw [List.length_append, List.length_singleton] at h2; omega
      have HWL := Lib.hid hwl
      clear hwl
      have wr2 := fun (_ : True) => (show IntKind.i64.wrap ((d : Int) + 1) = (d : Int) + 1 from IntWalk.i64_in _ (by omega))
      have WR := Lib.hid (And.intro wr1 wr2)
      clear wr1 wr2
      have skip : isDec k x.2 = false → isWait t k now x.2 = false → ∀ W', Below W.heap.size W W' → Leaves (fun k => k = b9 ∨ k = wb) Φ W (fun Φ' W' => ChI t k now w2.heap.size b9 wb w2 (pre ++ [x]) Φ' W') W' := fun h1 h2 W' hb => hJ0.skip h1 h2 hb HL9.out.1 HL9.out.2
      have SK := Lib.hid skip
      have HJ := Lib.hid hJ0
      have HED := Lib.hid (And.intro eD eW)
      have HE := Lib.hid (And.intro e1 (And.intro e2 (And.intro e3 (And.intro e4 (And.intro e5 e6)))))
      have HDL := Lib.hid (And.intro hd hdl)
      obtain ⟨ref, href⟩ : ∃ ref, ref = x.1 := ⟨_, rfl⟩
      rw [← href]
      have HREF := Lib.hid href
      have hWl : wb < W.heap.size := by have := HL9.out.2; omega
      have HAL := Lib.hid (show (∀ o, w2.heap.size ≤ (W.alloc o).heap.size) ∧ (∀ o, wb < (W.alloc o).heap.size) from ⟨fun o => by rw [World.size_alloc]; omega, fun o => by rw [World.size_alloc]; omega⟩)
      have HOW := Lib.hid (show some wb ≠ v.ownBlock from fun e => by have := (e3.block e.symm).1; have := HL9.out.2; omega)
      clear skip hJ0 e1 e2 e3 e4 e5 e6 eD eW i8 i5 i6 i7 hbw q5 q6 q7 q8 n1 n2 n3 n4 n5 n6 n7 n8 hb89 n9 n10 hst htr hsb' hbk hsi hpp hsb hnow hpr hmo hln hd hdl href hr8 hAt hxm hit hGl hGn hpx i9 iw
      have wr1 := WR.out.1 trivial
      have wr2 := WR.out.2 trivial
      by_cases z1 : st = 1
      · have b1 : (st != 1) = false := by simp [z1]
        by_cases z2 : tr = k
        · have b2 : (tr != (k : Int)) = false := by simp [z2]
          by_cases z3 : si = -1
          · have b3 : (si != -1) = false := by simp [z3]
            have hD : isDec k x.2 = false := by rw [HED.out.1]; simp [z3]
            by_cases z4 : bk = -1
            · have b4 : (bk != -1) = false := by simp [z4]
              have hW : isWait t k now x.2 = false := by rw [HED.out.2]; simp [z4]
              have HQ := Lib.hid (And.intro hD hW)
              clear hD hW z1 z2 z3 z4
              gi_wp2_with fail
              exact SK.out HQ.out.1 HQ.out.2 _ (Below.refl _ _)
            · have b4 : (bk != -1) = true := by simp [z4]
              by_cases z5 : pp ≤ now - sb
              · have b5 : decide (pp ≤ now - sb) = true := decide_eq_true z5
                have hW : isWait t k now x.2 = true := by rw [HED.out.2]; simp [z1, z2, z3, z4, z5]
                have HQ := Lib.hid (And.intro hD hW)
                obtain ⟨ao1, cap1, rfl⟩ := HE.out.2.2.1.lenOf
                obtain ⟨pl, hpl⟩ : ∃ pl, pl = (waitP t k now pre).length := ⟨_, rfl⟩
                rw [← hpl] at cw HE HOW
                have HPL := Lib.hid hpl
                have hA1 : ∀ o, w2.heap.size ≤ (W.alloc o).heap.size := HAL.out.1
                have hA2 : ∀ o, wb < (W.alloc o).heap.size := HAL.out.2
                have hA3 : some wb ≠ (Value.slice ao1 pl cap1).ownBlock := HOW.out
                have HA := Lib.hid (And.intro hA1 (And.intro hA2 hA3))
                clear hA1 hA2 hA3
                clear hD hW z1 z2 z3 z4 z5 hpl
                gi_wp2_with (first
                  | (refine wplIn_appN_at (B := w2.heap.size) (ub := W.heap.size) (xs := waitP t k now pre) (y := ref) rfl rfl rfl rfl (HE.out.2.2.1.of (Nat.le_refl _) (fun k hk => Below.heap_alloc _ _ _ (HE.out.2.2.1.block hk).2)) (by rw [World.cell?, World.alloc_heap_new]; rfl) HWL.out (HA.out.1 _) ?_; intro v' w3 hO hg hat; have cB : w3.cell? ⟨wb, 0, none⟩ = some (.slice ao1 pl cap1) := (World.cell?_of_block (a := ⟨wb, 0, none⟩) ((hg.block wb (HA.out.2.1 _) HA.out.2.2).trans (Below.heap_alloc _ _ _ hWl))).trans cw; have fB : w3.frozen? ⟨wb, 0, none⟩ = false := ((HE.out.2.1.alloc _).kept hg HA.out.2.2).frozen; obtain ⟨ao2, cap2, rfl⟩ := hO.lenOf; obtain ⟨m2, hm2⟩ : ∃ m2, m2 = (waitP t k now pre ++ [ref]).length := ⟨_, rfl⟩; rw [← hm2] at hO hat; rw [← hm2]; have HO := Lib.hid (And.intro hO (And.intro hg hat)); clear hO hg hat hm2)
                  | fail)
                obtain ⟨e1, e2, e3, e4, e5, e6⟩ := HE.out
                obtain ⟨hO, hg, hat⟩ := HO.out
                rw [HREF.out] at hO hg hat
                exact ChI.app e1 e2 e3 e4 e5 e6 HQ.out.1 HQ.out.2 HNB.out.1 HL9.out.1 HL9.out.2 ((Below.refl _ W).alloc (Nat.le_refl _) _) hO hg hat
              · have b5 : decide (pp ≤ now - sb) = false := decide_eq_false z5
                have hW : isWait t k now x.2 = false := by rw [HED.out.2]; simp [z5]
                have HQ := Lib.hid (And.intro hD hW)
                clear hD hW z1 z2 z3 z4 z5
                gi_wp2_with fail
                exact SK.out HQ.out.1 HQ.out.2 _ (Below.refl _ _)
          · have b3 : (si != -1) = true := by simp [z3]
            have hD : isDec k x.2 = true := by rw [HED.out.1]; simp [z1, z2, z3]
            have hW : isWait t k now x.2 = false := by rw [HED.out.2]; simp [z3]
            have HQ := Lib.hid (And.intro hD hW)
            clear hD hW z1 z2 z3
            gi_wp2_with fail
            have := HJ.out.dec HQ.out.1 HQ.out.2 HNB.out.1 HL9.out.1 HL9.out.2
            rw [← HDL.out.1] at this
            exact this
        · have b2 : (tr != (k : Int)) = true := by simpa using z2
          have hD : isDec k x.2 = false := by rw [HED.out.1]; simp [z2]
          have hW : isWait t k now x.2 = false := by rw [HED.out.2]; simp [z2]
          have HQ := Lib.hid (And.intro hD hW)
          clear hD hW z1 z2
          gi_wp2_with fail
          exact SK.out HQ.out.1 HQ.out.2 _ (Below.refl _ _)
      · have b1 : (st != 1) = true := by simpa using z1
        have hD : isDec k x.2 = false := by rw [HED.out.1]; simp [z1]
        have hW : isWait t k now x.2 = false := by rw [HED.out.2]; simp [z1]
        have HQ := Lib.hid (And.intro hD hW)
        clear hD hW z1
        gi_wp2_with fail
        exact SK.out HQ.out.1 HQ.out.2 _ (Below.refl _ _)
    case done => as_aux_lemma =>
      rintro D Φ W3 ⟨v3, e1, e2, e3, e4, e5, e6⟩ hon hD hnD hK
      obtain ⟨i8, i5, i6, i7, hbw, q5, q6, q7, q8⟩ := HI2.out
      obtain ⟨n1, n2, n3, n4, n5, n6, n7, n8, hb89, n9, n10⟩ := HNB.out
      obtain ⟨hrv, hin, hnow, hok, hvp⟩ := HRE.out
      have hws : w.heap.size ≤ w2.heap.size := hbw.size
      have hbW3 : Below w.heap.size w W3 := hbw.trans (hon.below hws (fun k hk => hk.elim (fun e => by rw [e]; exact n9) (fun e => by rw [e]; exact n10)) (fun k h => h.elim))
      have hr3 := hrv.below hbW3
      have hln : (waitP t k now (rowR 0 R)).length ≤ 12 := Nat.le_trans (waitP_len _ _ _ _) HPD.out.2.2.2.2
      have j5 : Boxed W3 p5 34 (.pointer vp) := (e5 p5 q5 n6 n3).trans i5
      have hvZ : ∀ k, v3.ownBlock = some k → ¬ Z k := fun k hk hz => by have := (e3.block hk).1; have := hrv.lt hz; omega
      have hs3 := hon.grow.size
      have hvp5 : v3.ownBlock ≠ some p5 := fun e => by have := (e3.block e).1; omega
      have hcmp : ∀ (x y : Int) (wr : World), Grow W3 wr → (∀ j, j < W3.heap.size → v3.ownBlock ≠ some j → wr.heap[j]? = W3.heap[j]?) → Calls Tryz.prog 94 #[.int .i64 x, .int .i64 y, .pointer (some ⟨p5, 0, none⟩)] wr fun e w' => e = .returned (.int .i64 (cmpA S x y)) ∧ Below wr.heap.size wr w' := fun x y wr hg ho => by
        obtain ⟨F, hvo, -⟩ := (hr3.keep hg (fun k hk => ho k (hr3.lt hk) (fun e => hvZ k e hk))).vo
        exact choose_cmp hvo (by rw [← hvp]; exact Boxed.cell (t := 34) ((ho p5 (by omega) hvp5).trans j5)) x y
      have hsort := sortStable_small (q := p5) (cf := cmpA S) e3 hln hcmp
      have cw := e2.cell
      have f8 : W3.heap[b8]? = some (.cells (trkR.f t).toArray 26 (0, 0)) := (e5 b8 q8 hb89 n2).trans i8
      have j7 : Boxed W3 p7 3 (.int .i64 now) := (e5 p7 q7 n8 n5).trans i7
      obtain ⟨hnowb, hpr, hmo, -⟩ := HPD.out.2
      obtain ⟨l0, hl0⟩ : ∃ l0, l0 = waitP t k now (rowR 0 R) := ⟨_, rfl⟩
      obtain ⟨d, hd⟩ : ∃ d, d = decP k (rowR 0 R) := ⟨_, rfl⟩
      have hdl : d ≤ 12 := by rw [hd]; exact Nat.le_trans (decP_le _ _) HPD.out.2.2.2.2
      rw [← hl0] at e3 hln hsort
      rw [← hd] at e1
      obtain ⟨l4, hl4⟩ : ∃ l4, l4 = isort (cmpA S) l0 := ⟨_, rfl⟩
      rw [← hl4] at hsort
      have hl4n : l4.length = l0.length := by rw [hl4]; exact isort_len _ _
      obtain ⟨m, hm⟩ : ∃ m, m = min l0.length (max (t.most - d) 0).toNat := ⟨_, rfl⟩
      have hch : chosen t R S k now = l4.take m := by
        unfold chosen
        simp only
        rw [← hl0, ← hd, ← hl4, hl4n, ← hm]
      have hmem : ∀ x ∈ l4.take m, ∃ kk : Nat, x = kk ∧ kk < R.length := fun x hx => mem_chosen (t := t) (S := S) (i := k) (now := now) (by rw [hch]; exact hx)
      have hDl : D < W3.heap.size := (Array.getElem?_eq_some_iff.1 hK).1
      have hDv : v3.ownBlock ≠ some D := fun e => hnD ((e4 D).2 e)
      have hDZ : ¬ Z D := fun hz => by have := hrv.lt hz; omega
      -- behind the sort
      have hsort2 : Calls Tryz.prog 93 #[v3, .func (.func 94) #[] #[.pointer (some ⟨p5, 0, none⟩)]] W3 fun e w4 => (∃ u, e = .returned u) ∧ OwnN w2.heap.size v3 l4 w4 ∧ RvAt r g vb N ts R S A M Z w4 ∧ Below w.heap.size w w4 ∧ Boxed w4 wb 22 v3 ∧ Boxed w4 b9 3 (.int .i64 d) ∧ Boxed w4 p7 3 (.int .i64 now) ∧ w4.heap[b8]? = some (.cells (trkR.f t).toArray 26 (0, 0)) ∧ w4.heap[D]? = some (.deferred (some [])) ∧ D < w4.heap.size := by
        refine hsort.mono ?_
        rintro e w4 ⟨he, ho4, hg4, hoff⟩
        have hv2 : ∀ k, k < w2.heap.size → v3.ownBlock ≠ some k := fun k hk e => by have := (e3.block e).1; omega
        refine ⟨he, ho4, hr3.keep hg4 (fun k hk => hoff k (hr3.lt hk) (fun e => hvZ k e hk)), ⟨hg4.os.trans hbW3.os, hg4.tape.trans hbW3.tape, hg4.output.trans hbW3.output, Nat.le_trans hbW3.size hg4.size, fun k hk => (hoff k (by omega) (hv2 k (by omega))).trans (hbW3.block k hk)⟩, (hoff wb (by have := HL9.out.2; omega) (hv2 wb HL9.out.2)).trans e2, (hoff b9 (by have := HL9.out.1; omega) (hv2 b9 HL9.out.1)).trans e1, (hoff p7 (by omega) (hv2 p7 q7)).trans j7, (hoff b8 (by omega) (hv2 b8 q8)).trans f8, (hoff D hDl hDv).trans hK, Nat.lt_of_lt_of_le hDl hg4.size⟩
      have HSORT := Lib.hid hsort2
      have HFIN := Lib.hid (show chooseR t R S k now = selR R now (l4.take m) by unfold chooseR; rw [hch])
      have HMEM := Lib.hid hmem
      have HM := Lib.hid (And.intro hm (And.intro hl4n (And.intro hdl (And.intro hmo (And.intro hln (And.intro hDZ (And.intro hin (And.intro hws (Nat.le_trans hws hD)))))))))
      clear e1 e2 e3 e4 e5 e6 hon hD hnD hK i8 i5 i6 i7 hbw q5 q6 q7 q8 n1 n2 n3 n4 n5 n6 n7 n8 hb89 n9 n10 hrv hin hnow hok hvp hws hbW3 hr3 hln j5 hvZ hs3 hvp5 hcmp hsort f8 j7 hnowb hpr hmo hd hdl hl0 hl4 hl4n hm hch hmem hDl hDv hDZ hsort2 hit hGl hGn i9 iw l9 lw
      gi_upto_region 12 with (first
        | (refine ⟨trivial, ?_⟩; gi_at_call 93; refine (callsIn_wide.2 HSORT.out).mono ?_; rintro e w4 ⟨⟨u, rfl⟩, h4⟩; have H4 := Lib.hid h4; clear h4)
        | (gi_at_call 93; refine (callsIn_wide.2 HSORT.out).mono ?_; rintro e w4 ⟨⟨u, rfl⟩, h4⟩; have H4 := Lib.hid h4; clear h4)
        | fail)
      obtain ⟨ho4, hr4, hb4, x4w, x49, x47, x48, hD4, hDl4⟩ := H4.out
      obtain ⟨hm, hl4n, hdl, hmo, hln, hDZ, hin, hws, hDw⟩ := HM.out
      have cw := x4w.cell
      have c9 := x49.cell
      have hr8 : w4.rangeAt b8 0 (trkR.f t) := rangeAt_whole (T := 26) x48
      have c80 : w4.cell? ⟨b8, 0, none⟩ = some (.int .i64 t.most) := by have := hr8 0 _ (show (trkR.f t)[0]? = some (.int .i64 t.most) from rfl); rwa [Nat.zero_add] at this
      obtain ⟨dm, hdm⟩ : ∃ dm, dm = t.most - (d : Int) := ⟨_, rfl⟩
      obtain ⟨mx, hmx⟩ : ∃ mx, mx = max dm 0 := ⟨_, rfl⟩
      obtain ⟨ln, hlnn⟩ : ∃ ln, ln = l0.length := ⟨_, rfl⟩
      rw [← hlnn] at hl4n hln
      have hm2 : m = min ln mx.toNat := by rw [hm, hmx, hdm, ← hlnn]
      have E1 : IntKind.i64.wrap (t.most - (d : Int)) = dm := by rw [hdm]; exact IntWalk.i64_in _ (by omega)
      have E2 : (if dm < 0 then (0 : Int) else dm) = mx := by rw [hmx]; omega
      have E2' : max dm 0 = mx := hmx.symm
      have E3 : (if mx < (ln : Int) then mx else (ln : Int)) = (m : Int) := by rw [hm2]; omega
      have E3' : min (ln : Int) mx = (m : Int) := by rw [hm2]; omega
      have hmln : m ≤ ln := by rw [hm2]; omega
      obtain ⟨mo, hmo'⟩ : ∃ mo, mo = t.most := ⟨_, rfl⟩
      rw [← hmo'] at c80 E1
      have H4b := Lib.hid (And.intro ho4 (And.intro hr4 (And.intro hb4 (And.intro x47 (And.intro hD4 hDl4)))))
      have HMb := Lib.hid (And.intro hl4n (And.intro hln (And.intro hDZ (And.intro hin (And.intro hws hDw)))))
      clear hr4 hb4 x4w x49 x47 x48 hD4 hDl4 hm hdl hmo hln hDZ hin hws hDw hdm hmx hlnn hm2 hr8 hmo'
      rcases ho4.2 with ⟨hv, hn0⟩ | ⟨b, cap3, cur, hv, hb, hg, hn, hcm, hcs, hct⟩
      · subst hv
        have hl00 : ln = 0 := by rw [← hl4n]; exact hn0
        have hm0 : m = 0 := by omega
        have hl40 : l4.length = 0 := hn0
        rw [hl00, hm0] at E3 E3'
        rw [hm0] at HFIN
        obtain ⟨ho4', hr4, hb4, x47, hD4, hDl4⟩ := H4b.out
        obtain ⟨hl4n', hln, hDZ, hin, hws, hDw⟩ := HMb.out
        have X0 : RvToX r g vb N ts (selR R now (l4.take 0)) S A M Z (fun _ => False) w4 w4 := RvToX.start hr4 (fun j hj => hj.elim)
        have HX := Lib.hid X0
        have HFF := Lib.hid (And.intro hD4 (And.intro hDl4 (And.intro hDZ (And.intro hb4 hDw))))
        clear X0 ho4' hr4 hb4 x47 hD4 hDl4 hl4n' hln hDZ hin hws hDw hl00 hm0 hmln ho4 hl4n hn0 hl40
        gi_wp2_with fail
        clear E1 E2 E2' E3 E3'
        gi_loopw [75] (fun i wr => i = .int .i64 0 ∧ wr = w4) (fun _ _ => 0)
        case atStart => exact ⟨rfl, rfl⟩
        case round => as_aux_lemma =>
          obtain ⟨rfl, rfl⟩ := hrel
          gi_wp2_with fail
          obtain ⟨hD4, hDl4, hDZ, hb4, hDw⟩ := HFF.out
          have hDr := (HX.out.old hDl4 hDZ (fun h => h)).trans hD4
          obtain ⟨-, Z1, g1, g2, g3⟩ := HX.out
          have hs4 := hb4.size
          refine marks_leave [D] _ (by simp) (fun d' hd' => ?_) (fun w' hg' hk' => ⟨_, results_none rfl _ _ _, ⟨_, rfl⟩, ?_⟩)
          · simp only [List.mem_cons, List.not_mem_nil, or_false] at hd'
            subst hd'; exact hDr
          · rw [HFIN.out]
            have hDf : ∀ q, Z1 q → q ≠ D := fun q hq e => (g2 q hq).elim (fun e' => hDZ (e ▸ e')) (fun e' => by omega)
            have hne : ∀ q, q < w.heap.size → q ∉ [D] := fun q hq e => by rw [List.mem_singleton] at e; omega
            exact ⟨Z1, g1.keep hg' (fun q hq => hk' q (fun e => hDf q hq (List.mem_singleton.1 e))), fun q hq => (g2 q hq).imp id (fun e => Nat.le_trans hs4 e), (Grow.of_below hb4).trans (g3.grow.trans hg'), fun q hq h1 h2 => (hk' q (hne q hq)).trans ((g3.block q (Nat.lt_of_lt_of_le hq hs4) (fun e => e.elim h1 (fun h => h)) (fun h => h)).trans (hb4.block q hq))⟩
      · subst hv
        rw [hl4n] at cw
        have hn' : ln ≤ cap3 := by rw [← hl4n]; exact hn
        clear ho4 hb hg hn hcm hcs hct hl4n
        have hs4 : w.heap.size ≤ w4.heap.size := H4b.out.2.2.1.size
        have X0 : RvToX r g vb N ts (selR R now (l4.take 0)) S A M Z (fun _ => False) w4 w4 := RvToX.start H4b.out.2.1 (fun j hj => hj.elim)
        have HX0 := Lib.hid X0
        clear X0
        gi_wp2_with fail
        clear E1 E2 E2' E3 E3'
        gi_loopw [75] (fun i wr => ∃ j : Nat, i = .int .i64 j ∧ j ≤ m ∧ RvToX r g vb N ts (selR R now (l4.take j)) S A M Z (fun _ => False) w4 wr) (fun i _ => m - (intOf i).toNat)
        case atStart => exact ⟨0, rfl, Nat.zero_le _, HX0.out⟩
        case round => as_aux_lemma =>
          obtain ⟨j, rfl, hj, hX⟩ := hrel
          obtain ⟨ho4, hr4, hb4, x47, hD4, hDl4⟩ := H4b.out
          obtain ⟨hl4n, hln, hDZ, hin, hws, hDw⟩ := HMb.out
          have hbl : b < w4.heap.size ∧ ¬ Z b := by
            obtain ⟨hbb, hbl⟩ := ho4.block (k := b) rfl
            exact ⟨hbl, fun hz => by have := (show ∀ k, Z k → k < w.heap.size from fun k hk => by obtain ⟨hrv, -⟩ := HRE.out; exact hrv.lt hk) b hz; omega⟩
          have hp7 : p7 < w4.heap.size ∧ ¬ Z p7 := ⟨x47.lt, fun hz => by have := (show ∀ k, Z k → k < w.heap.size from fun k hk => by obtain ⟨hrv, -⟩ := HRE.out; exact hrv.lt hk) p7 hz; have := HPP.out; omega⟩
          by_cases hlt : j < m
          · have hlt' : (j : Int) < m := by omega
            have hjl : j < l4.length := by omega
            have cj : wr.cell? ⟨b, j, none⟩ = some (.int .i64 (l4.getD j 0)) := (World.cell?_of_block (a := ⟨b, j, none⟩) (hX.old hbl.1 hbl.2 (fun h => h))).trans (ho4.cellAt hjl)
            obtain ⟨kk, hkk, hkl⟩ := HMEM.out (l4.getD j 0) (by rw [List.getD_eq_getElem?_getD, List.getElem?_eq_getElem hjl]; exact List.mem_take_iff_getElem.2 ⟨j, by omega, rfl⟩)
            have c7 : wr.cell? ⟨p7, 0, none⟩ = some (.int .i64 now) := Boxed.cell (t := 3) ((hX.old hp7.1 hp7.2 (fun h => h)).trans x47)
            rw [hkk] at cj
            obtain ⟨Rj, hRj⟩ : ∃ Rj, Rj = selR R now (l4.take j) := ⟨_, rfl⟩
            have hRn : selR R now (l4.take (j + 1)) = Rj.set kk { refAt Rj kk with si := now } := by
              rw [← pre_snoc hjl, selR_snoc, ← hRj]
              have : l4[j] = (kk : Int) := by rw [← hkk, List.getD_eq_getElem?_getD, List.getElem?_eq_getElem hjl]; rfl
              rw [this, Int.toNat_natCast]
            rw [← hRj] at hX
            have hRl : Rj.length = R.length := by rw [hRj]; exact selR_len _ _ _
            obtain ⟨x, hx⟩ : ∃ x, x = refAt Rj kk := ⟨_, rfl⟩
            rw [← hx] at hRn
            obtain ⟨FR, hre, -⟩ := hX.re
            have hget := refer_Get hre (b := kk) (wfS (by omega) (by have := hin.len; omega))
            rw [← hx] at hget
            obtain ⟨qq, hqq⟩ : ∃ qq, qq = refHas Rj kk := ⟨_, rfl⟩
            rw [← hqq] at hget
            have hstep : ∀ w5, Below wr.heap.size wr w5 → ∃ w6 b9x, w6 = w5.alloc (rfS.obj x) ∧ b9x = w5.heap.size ∧ w6.cell? ⟨p7, 0, none⟩ = some (.int .i64 now) ∧ w6.cell? ⟨b9x, 39, none⟩ = some (.int .i64 x.si) ∧ w6.frozen? ⟨b9x, 39, none⟩ = false ∧ (loadSt_R (.pointer (some ⟨b9x, 0, none⟩))).run Tryz.prog (w6.setCell ⟨b9x, 39, none⟩ (.int .i64 now)) = .ok (.agg (rfS.f { x with si := now }).toArray) (w6.setCell ⟨b9x, 39, none⟩ (.int .i64 now)) ∧
                Calls Tryz.prog 41 #[.pointer (some ⟨r, 0, none⟩), .int .i64 kk, .agg (rfS.f { x with si := now }).toArray] (w6.setCell ⟨b9x, 39, none⟩ (.int .i64 now)) fun e w7 => e = .returned (.tuple #[]) ∧ RvToX r g vb N ts (selR R now (l4.take (j + 1))) S A M Z (fun _ => False) w4 w7 := fun w5 hb5 => by
              have hbx : RfBox (w5.alloc (rfS.obj x)) w5.heap.size x := World.alloc_heap_new w5 _
              have hb6 : Below wr.heap.size wr (w5.alloc (rfS.obj x)) := hb5.alloc hb5.size _
              have hb7 : Below wr.heap.size wr ((w5.alloc (rfS.obj x)).setCell ⟨w5.heap.size, 39, none⟩ (.int .i64 now)) := hb6.trans ⟨rfl, rfl, rfl, by simp [World.setCell], fun q hq => Below.heap_setCell _ _ _ q (by show q ≠ w5.heap.size; have := hb5.size; omega)⟩
              have X7 := (hX.below hb7).1
              obtain ⟨FR7, hre7, lift⟩ := X7.re
              obtain ⟨-, -, -, -, -, -, -, y39, -, -⟩ := rf_at hbx.range
              refine ⟨_, _, rfl, rfl, (World.cell?_of_block (a := ⟨p7, 0, none⟩) (hb6.block p7 (cell_lt c7))).trans c7, y39, hbx.frozen _, run_loadSt_R (hbx.set (rf_set_si x now)).range, ?_⟩
              refine (refer_set hre7 hre7.size (R' := selR R now (l4.take (j + 1))) (k := kk) (by omega) (by rw [hRl]; have := hin.len; omega) _ (by rw [if_pos (by omega), hRn])).mono ?_
              rintro e w8 ⟨he, hto⟩
              exact ⟨he, (lift _ _ hto).1⟩
            have HG := Lib.hid hget
            have HST := Lib.hid hstep
            clear ho4 hr4 hb4 x47 hD4 hDl4 hl4n hln hDZ hin hws hDw hbl hp7 hX hRj hRn hRl hx hre hget hqq hstep hkl hkk
            gi_upto_region 16 with (first
              | (refine ⟨trivial, ?_⟩; gi_at_call 21; refine (callsIn_wide.2 HG.out).mono ?_; rintro e w5 ⟨rfl, hb⟩; have H5 := Lib.hid hb; clear hb)
              | (gi_at_call 21; refine (callsIn_wide.2 HG.out).mono ?_; rintro e w5 ⟨rfl, hb⟩; have H5 := Lib.hid hb; clear hb)
              | (refine wplIn_allocS (s := rfS) rfl rfl rfl ?_)
              | (refine wplIn_storeS (s := rfS) (t := x) (b := w5.heap.size) _ _ rfl rfl rfl rfl rfl (World.alloc_heap_new w5 _) (zeroS rfS) ?_; rw [newS])
              | fail)
            obtain ⟨w6, b9x, hw6, hb9x, c7', c39, f39, lx, hset⟩ := HST.out w5 H5.out
            rw [← hw6, ← hb9x]
            have HSET := Lib.hid hset
            clear hw6 hb9x hset c7
            gi_wp2_with (first
              | (refine ⟨trivial, ?_⟩; gi_at_call 41; refine (callsIn_wide.2 HSET.out).mono ?_; rintro e w7 ⟨rfl, hX⟩; have HX := Lib.hid hX; clear hX)
              | (gi_at_call 41; refine (callsIn_wide.2 HSET.out).mono ?_; rintro e w7 ⟨rfl, hX⟩; have HX := Lib.hid hX; clear hX)
              | fail)
            have hln12 := HMb.out.2.1
            rw [IntWalk.wrap64_in _ (by omega)]
            exact ⟨⟨j + 1, rfl, by omega, HX.out⟩, by simp [intOf]; omega⟩
          · have hjm : j = m := by omega
            subst hjm
            have hge : ¬ (j : Int) < j := by omega
            have HX := Lib.hid hX
            have HFF := Lib.hid (And.intro hD4 (And.intro hDl4 (And.intro hDZ (And.intro hb4 hDw))))
            clear hX ho4 hr4 hb4 x47 hD4 hDl4 hl4n hln hDZ hin hws hDw hbl hp7
            gi_wp2_with fail
            obtain ⟨hD4, hDl4, hDZ, hb4, hDw⟩ := HFF.out
            have hDr := (HX.out.old hDl4 hDZ (fun h => h)).trans hD4
            obtain ⟨-, Z1, g1, g2, g3⟩ := HX.out
            have hs4 := hb4.size
            refine marks_leave [D] wr (by simp) (fun d' hd' => ?_) (fun w' hg' hk' => ⟨_, results_none rfl _ _ _, ⟨_, rfl⟩, ?_⟩)
            · simp only [List.mem_cons, List.not_mem_nil, or_false] at hd'
              subst hd'; exact hDr
            · rw [HFIN.out]
              have hDf : ∀ q, Z1 q → q ≠ D := fun q hq e => (g2 q hq).elim (fun e' => hDZ (e ▸ e')) (fun e' => by omega)
              have hne : ∀ q, q < w.heap.size → q ∉ [D] := fun q hq e => by rw [List.mem_singleton] at e; omega
              exact ⟨Z1, g1.keep hg' (fun q hq => hk' q (fun e => hDf q hq (List.mem_singleton.1 e))), fun q hq => (g2 q hq).imp id (fun e => Nat.le_trans hs4 e), (Grow.of_below hb4).trans (g3.grow.trans hg'), fun q hq h1 h2 => (hk' q (hne q hq)).trans ((g3.block q (Nat.lt_of_lt_of_le hq hs4) (fun e => e.elim h1 (fun h => h)) (fun h => h)).trans (hb4.block q hq))⟩
end Go.Proofs.YtpkamfbjgdmmoaaGreat
end
