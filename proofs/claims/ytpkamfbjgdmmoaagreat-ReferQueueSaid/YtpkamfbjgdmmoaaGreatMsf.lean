/-
  Joined texts.
-/
import Derived.Shelf.SlIterI.Nil
import Derived.Shelf.SortM.Plain
import Derived.Shelf.SortM.SortNone
import Derived.Ground.GgzProg
import Derived.Ground.SlgmProg
import Derived.Shelf.SlGeneric
import Derived.Test.YtpkamfbjgdmmoaaGreatProg
import Derived.StillTailTactics
import Derived.OrdersIn
import Derived.WalkKit
import Derived.TacticsIn
import Derived.TacticsInMore
import Derived.RangeFuncCalls
import Derived.Test.YtpkamfbjgdmmoaaGreatMse

section
namespace Go.Proofs.YtpkamfbjgdmmoaaGreat
open Go.RowKit Go.Maps Go.Shelf
set_option linter.unusedVariables false
set_option linter.unusedSimpArgs false

set_option maxRecDepth 100000 in
set_option maxHeartbeats 4000000 in
theorem ledger_unholdF {N g gl : Nat} {A : Acc} {M : Cls Int} {w : World} (h : LdAt N g gl A M w) {a b : Int} (hb : isAcc b) (n : Int) :
    Calls Tryz.prog 103 #[.pointer (some ⟨g, 0, none⟩), .int .i64 a, .int .i64 n, .int .i64 b] w fun e w' => e = .returned (.int .i64 (heldM A a n)) ∧ LdAt N g gl (unheld A a n b) M w' ∧ Below N w w' ∧ Off g w w' := by
  by_cases hac : isAcc a
  · have hm0 : heldM A a n = min (max n 0) (A a.toNat).2 := by rw [heldM, if_pos hac]
    have hu0 : unheld A a n b = giveA (takeA A a.toNat (heldM A a n)) b.toNat (heldM A a n) := by rw [unheld, if_pos hac]
    obtain ⟨m, hm⟩ : ∃ m, m = heldM A a n := ⟨_, rfl⟩
    rw [hu0, ← hm]
    rw [← hm] at hm0
    clear hm hu0
    obtain ⟨k, rfl, hk⟩ := isAcc_nat hac
    obtain ⟨j, rfl, hj⟩ := isAcc_nat hb
    rw [Int.toNat_natCast] at hm0 ⊢
    rw [Int.toNat_natCast]
    have h0 : 0 ≤ (A k).2 := h.ok.held k
    have hmn : 0 ≤ m ∧ m ≤ (A k).2 := by omega
    obtain ⟨ok1, sm1⟩ := takeA_ok h.ok hk hmn.1 hmn.2
    have ok2 := giveA_ok ok1 hj hmn.1 (by rw [sm1]; have := h.ok.all; omega)
    have hh := h.held hk
    have hf := h.frozen (k * 2 + 1)
    obtain ⟨u, hu⟩ : ∃ u, u = (A k).2 := ⟨_, rfl⟩
    have hu1 : u ≤ 1073741824 := by have := h.ok.one hk; have := h.ok.free k; unfold both at *; omega
    obtain ⟨w1, hw1⟩ : ∃ w1, w1 = w.setCell ⟨g, k * 2 + 1, none⟩ (.int .i64 (u - m)) := ⟨_, rfl⟩
    have p1 := h.setHeld hk (u - m) (by rw [hu]; exact ok1)
    rw [← hw1] at p1
    have p1' : LdAt N g gl (takeA A k m) M w1 := by unfold takeA; rw [← hu]; exact p1.1
    have hfr := p1'.free hj
    obtain ⟨f, hff⟩ : ∃ f, f = (takeA A k m j).1 := ⟨_, rfl⟩
    have hf0 : 0 ≤ f := by rw [hff]; exact ok1.free j
    have hf1 : f ≤ 1073741824 := by have := ok1.one hj; have := ok1.held j; unfold both at *; omega
    have p2 := p1'.setFree hj (f + m) (by rw [hff]; exact ok2)
    have hfz := p1'.frozen (j * 2)
    have hn1 : IntKind.i64.wrap (u - m) = u - m := IntWalk.i64_in _ (by omega)
    have hn2 : IntKind.i64.wrap (f + m) = f + m := IntWalk.i64_in _ (by omega)
    have hmm : min (max n 0) u = m := by rw [hu]; exact hm0.symm
    rw [← hu] at hh
    rw [← hff] at hfr
    have hend : LdAt N g gl (giveA (takeA A k m) j m) M (w1.setCell ⟨g, j * 2, none⟩ (.int .i64 (f + m))) ∧ Below N w (w1.setCell ⟨g, j * 2, none⟩ (.int .i64 (f + m))) ∧ Off g w (w1.setCell ⟨g, j * 2, none⟩ (.int .i64 (f + m))) := ⟨by unfold giveA; rw [← hff]; exact p2.1, p1.2.trans p2.2, (show Off g w w1 by rw [hw1]; exact Off.set).trans (by rw [hw1]; simp [World.setCell]) Off.set⟩
    have HE := Lib.hid hend
    have HK := Lib.hid (And.intro hk hj)
    have HW1 := Lib.hid hw1
    have HFR := Lib.hid (And.intro hfr hfz)
    clear h hac hb hm0 hk hj h0 hmn ok1 sm1 ok2 hu p1 p1' hff p2 hend hw1 hfr hfz
    go_enter Tryz.func103, Tryz.ntmps103
    go_upto_region 6 with (first
      | (go_at_call 68; refine (ledger_account HK.out.1 _).mono ?_; rintro e w' ⟨rfl, hw⟩; rw [hw]; clear hw w')
      | fail)
    rw [← HW1.out]
    obtain ⟨hfr, hfz⟩ := HFR.out
    clear hf hh
    go_wp2_with (first
      | (go_at_call 68; refine (ledger_account HK.out.2 _).mono ?_; rintro e w' ⟨rfl, hw⟩; rw [hw]; clear hw w')
      | fail)
    go_ret
    exact ⟨rfl, HE.out⟩
  · have e1 : heldM A a n = 0 := by rw [heldM, if_neg hac]
    have e2 : unheld A a n b = A := by rw [unheld, if_neg hac]
    have HH := Lib.hid (And.intro h hac)
    rw [e1, e2]
    clear h hb hac e1 e2
    go_enter Tryz.func103, Tryz.ntmps103
    go_wp2_with (first
      | (go_at_call 68; refine (ledger_account_no HH.out.2 _).mono ?_; rintro e w' ⟨rfl, hw⟩; rw [hw]; clear hw w')
      | fail)
    exact bodyPost_ret (v := .int .i64 0) (by simp [results, Tryz.results103, go_sem]) rfl ⟨rfl, HH.out.1, Below.refl _ _, Off.refl _ _⟩
section
variable {N g gl : Nat} {A : Acc} {M : Cls Int} {w : World}
set_option maxRecDepth 100000 in
theorem ledger_SlashF (h : LdAt N g gl A M w) (a n : Int) : Calls Tryz.prog 104 #[.pointer (some ⟨g, 0, none⟩), .int .i64 a, .int .i64 n] w fun e w' => e = .returned (.int .i64 (heldM A a n)) ∧ LdAt N g gl (unheld A a n 0) M w' ∧ Below N w w' ∧ Off g w w' := by
  have HH := Lib.hid h
  clear h
  go_enter Tryz.func104, Tryz.ntmps104
  go_wp2_with (first | (go_at_call 103; refine (ledger_unholdF HH.out (by unfold isAcc; omega) n).mono ?_; rintro e w1 ⟨rfl, h1⟩; have H1 := Lib.hid h1; clear h1) | fail)
  go_ret
  exact ⟨rfl, H1.out⟩
end
section
variable {g N : Nat} {A : Acc} {M : Cls Int} {FL : FP} {w w' : World}
theorem LdX.toF (h : LdX g N A M FL w) {A' : Acc} {E : Int} {e : Ending} {w' : World} {gl : Nat} (hg : w.cell? ⟨g, 20, none⟩ = some (.pointer (some ⟨gl, 0, none⟩))) (h' : e = .returned (.int .i64 E) ∧ LdAt N g gl A' M w' ∧ Below N w w' ∧ Off g w w') : e = .returned (.int .i64 E) ∧ LdTo g N A' M FL w w' := by
  obtain ⟨gl', F, h1, hF, hF2, h4, h5, h6, h7⟩ := h
  have h0 : LdAt N g gl' A M w := ⟨h1, ⟨F, hF, hF2⟩, h4, h5, h6⟩
  obtain rfl : gl' = gl := by have := h0.ptr; rw [hg] at this; injection this with q; injection q with q; injection q with q; injection q with q; exact q.symm
  obtain ⟨he, k1, k2, k3⟩ := h'
  exact ⟨he, FL, ⟨gl', F, k1.blk, hF.keep (Grow.of_below k2) (fun k hk => k3 k (hF.2.2.1 k hk) (hF2 k hk).2), hF2, h4, k1.ok, h6, h7⟩, fun k hk => .inl hk, Grow.of_below k2, fun k hk h8 h9 => k3 k hk (fun e => h8 ((h7 k).2 (.inl e)))⟩
theorem ledger_ReserveX (h : LdX g N A M FL w) {a : Int} (ha : (Lit.int .i64 a).wf = true) (n : Int) : Calls Tryz.prog 39 #[.pointer (some ⟨g, 0, none⟩), .int .i64 a, .int .i64 n] w fun e w' => e = .returned (.int .i64 (spendE A M a n false)) ∧ LdTo g N (reserveA A M a n) M FL w w' := by
  obtain ⟨gl, h0⟩ := h.at
  exact (ledger_ReserveF h0 h.size ha n).mono fun e w' h' => h.toF h0.ptr h'
theorem ledger_SlashX (h : LdX g N A M FL w) (a n : Int) : Calls Tryz.prog 104 #[.pointer (some ⟨g, 0, none⟩), .int .i64 a, .int .i64 n] w fun e w' => e = .returned (.int .i64 (heldM A a n)) ∧ LdTo g N (unheld A a n 0) M FL w w' := by
  obtain ⟨gl, h0⟩ := h.at
  exact (ledger_SlashF h0 a n).mono fun e w' h' => h.toF h0.ptr h'
theorem ledger_IssuedX (h : LdX g N A M FL w) : Calls Tryz.prog 72 #[.pointer (some ⟨g, 0, none⟩)] w fun e w' => e = .returned (.int .i64 (sumTo A 10)) ∧ Below w.heap.size w w' := by
  obtain ⟨gl, h0⟩ := h.at
  exact ledger_Issued h0
end
end Go.Proofs.YtpkamfbjgdmmoaaGreat
end

section
namespace Go.Proofs
open Go.Shelf
def Tryz.keysV_ren : Go.Shelf.Ren := ⟨fun | 7 => 153 | 10 => 161 | n => n, fun | 23 => 175 | 26 => 3 | 3 => 47 | 28 => 250 | 0 => 0 | 27 => 249 | 33 => 72 | 4 => 4 | n => n, fun | n => n⟩
theorem Tryz.keysV : Go.Proofs.SlLaysZI.n7 Tryz.prog Tryz.keysV_ren := {
  mixed := by kernel_rfl
  f7 := ⟨Tryz.f153.name, by decide, Tryz.func153.trans (congrArg some (by kernel_rfl))⟩
  f10 := ⟨Tryz.f161.name, by decide, Tryz.func161.trans (congrArg some (by kernel_rfl))⟩
  t0 := Tryz.underlying0
  a0 := Tryz.isAgg0
  z0 := Tryz.sizeOf0
  v0 := Tryz.zeroValue0
  t4 := Tryz.underlying4
  a4 := Tryz.isAgg4
  z4 := Tryz.sizeOf4
  v4 := Tryz.zeroValue4
  t23 := Tryz.underlying175
  a23 := Tryz.isAgg175
  z23 := Tryz.sizeOf175
  v23 := Tryz.zeroValue175
  t26 := Tryz.underlying3
  a26 := Tryz.isAgg3
  z26 := Tryz.sizeOf3
  v26 := Tryz.zeroValue3
  t27 := Tryz.underlying249
  a27 := Tryz.isAgg249
  z27 := Tryz.sizeOf249
  v27 := Tryz.zeroValue249
  t28 := Tryz.underlying250
  a28 := Tryz.isAgg250
  z28 := Tryz.sizeOf250
  v28 := Tryz.zeroValue250
  t33 := Tryz.underlying72
  a33 := Tryz.isAgg72
  z33 := Tryz.sizeOf72
  v33 := Tryz.zeroValue72 }
end Go.Proofs
end

section
namespace Go.Proofs.YtpkamfbjgdmmoaaGreat
open Go.RowKit Go.Maps Go.Sort Go.Shelf
set_option linter.unusedVariables false
set_option linter.unusedSimpArgs false

set_option maxHeartbeats 1000000 in
theorem rising_V {β : Type} {c : Cod β} {b : Nat} {m : List (Int × β)} {w : World} (h : MapAt c b m w) (hm : m.length ≤ 1000000) :
    Calls Tryz.prog 146 #[.map (some b)] w fun e w' => ∃ v, e = .returned v ∧ w'.ownsRow w.heap.size 3 1 v m.length (m.map fun x => Value.int .i64 x.1) ∧ (v = .slice none 0 0 ↔ m = []) ∧ Below w.heap.size w w' := by
  refine (callsIn_wide (n := 6)).1 ?_
  have hbl := h.lt
  obtain ⟨nn, D0, hown, h1, h2⟩ := h.own
  have hs := MapAt.size h.srt hown h1
  have hperm := MapAt.keys h.srt hown h1
  have hseq : SeqGives Fence.wide 2 Tryz.prog 161 #[.pointer (some ⟨w.heap.size, 0, none⟩)] encZ (fun ss => ss.Perm (intKeys D0)) (Maps.size D0) (w.alloc (.cells #[.map (some b)] 175)) :=
    AnyZI.keys_gives (ρ := Tryz.keysV_ren) { Tryz.keysV with } Fence.wide _ trivial rfl (by omega) w.heap.size b nn D0 _ (by simp) (by simp) (hown.alloc _)
  have cK : ∀ mb W, CallsIn Fence.wide 5 Tryz.prog 153 #[.map mb] W fun e w' => e = .returned (.func (.func 161) #[] #[.pointer (some ⟨W.heap.size, 0, none⟩)]) ∧ w' = W.alloc (.cells #[.map mb] 175) := fun mb W => AnyZI.keys_in Tryz.keysV Fence.wide 5 trivial rfl mb W
  have cS := AnyZI.sorted_in Tryz.sortedA Fence.wide 5 trivial trivial trivial trivial rfl (by omega) (sortsA _) (enters_of Tryz.func159 (by kernel_rfl) rfl) 161 #[.pointer (some ⟨w.heap.size, 0, none⟩)] trivial (enters_of Tryz.func161 (by kernel_rfl) rfl) _ _ (by rw [hs]; unfold maxLen; omega) (by rw [hs]; omega) _ hseq
  change CallsIn _ _ Tryz.prog 150 _ _ _ at cS
  have hfK : Fence.wide.fn 153 := trivial
  have hfS : Fence.wide.fn 150 := trivial
  have Hd := Lib.hid (And.intro hs (And.intro hperm (And.intro h1 h.srt)))
  clear hs hperm h1 h2 hm
  refine callsIn_of_wp Tryz.func146 rfl trivial ?_ rfl
  simp only [Tryz.ntmps146, List.size_toArray, List.length_cons, List.length_nil, Nat.reduceAdd, Nat.reduceSub, Array.replicate_succ, Array.replicate_zero, List.push_toArray, List.append_toArray, List.nil_append, List.cons_append]
  gi_wp2_with (first
    | (gi_at_call 153; refine (cK _ _).mono ?_; rintro e w' ⟨rfl, rfl⟩)
    | (gi_at_call 150; refine cS.mono ?_; rintro e w' ⟨v, ss, rfl, hS, hrow, hnil, hb⟩)
    | fail)
  go_ret
  obtain ⟨hs, hperm, h1, hsrt⟩ := Hd.out
  have hp : ss.Perm (m.map (·.1)) := hS.trans hperm.symm
  have hl : ss.length = m.length := by rw [hp.length_eq]; simp
  have hsk := sorted_keys hsrt hp
  refine ⟨v, rfl, ?_, ?_, ((Below.refl _ w).alloc (Nat.le_refl _) _).trans (hb.mono (by simp))⟩
  · have : w'.ownsRow w.heap.size 3 1 v ss.length ((ss.mergeSort (fun x y => decide (x ≤ y))).map encZ) := ownsRow_base_a hrow (by simp)
    rw [hsk, hl] at this
    simpa [encZ, Function.comp_def] using this
  · rw [hnil, ← List.length_eq_zero_iff, ← List.length_eq_zero_iff, hl]

set_option maxHeartbeats 1000000 in
theorem rising_V_nil (w : World) : Calls Tryz.prog 146 #[.map none] w fun e w' => e = .returned (.slice none 0 0) ∧ Below w.heap.size w w' := by
  refine (callsIn_wide (n := 6)).1 ?_
  have hseq : SeqGives Fence.wide 2 Tryz.prog 161 #[.pointer (some ⟨w.heap.size, 0, none⟩)] encZ (fun ss : List Int => ss = []) 0 (w.alloc (.cells #[.map none] 175)) :=
    AnyZI.keys_gives_nil (ρ := Tryz.keysV_ren) { Tryz.keysV with } Fence.wide _ trivial rfl w.heap.size _ (by simp) (by simp)
  have cK : ∀ mb W, CallsIn Fence.wide 5 Tryz.prog 153 #[.map mb] W fun e w' => e = .returned (.func (.func 161) #[] #[.pointer (some ⟨W.heap.size, 0, none⟩)]) ∧ w' = W.alloc (.cells #[.map mb] 175) := fun mb W => AnyZI.keys_in Tryz.keysV Fence.wide 5 trivial rfl mb W
  have cS := AnyZI.sorted_in Tryz.sortedA Fence.wide 5 trivial trivial trivial trivial rfl (by omega) (sortsA _) (enters_of Tryz.func159 (by kernel_rfl) rfl) 161 #[.pointer (some ⟨w.heap.size, 0, none⟩)] trivial (enters_of Tryz.func161 (by kernel_rfl) rfl) _ 0 (Nat.zero_le _) (by omega) _ hseq
  change CallsIn _ _ Tryz.prog 150 _ _ _ at cS
  have hfK : Fence.wide.fn 153 := trivial
  have hfS : Fence.wide.fn 150 := trivial
  refine callsIn_of_wp Tryz.func146 rfl trivial ?_ rfl
  simp only [Tryz.ntmps146, List.size_toArray, List.length_cons, List.length_nil, Nat.reduceAdd, Nat.reduceSub, Array.replicate_succ, Array.replicate_zero, List.push_toArray, List.append_toArray, List.nil_append, List.cons_append]
  gi_wp2_with (first
    | (gi_at_call 153; refine (cK _ _).mono ?_; rintro e w' ⟨rfl, rfl⟩)
    | (gi_at_call 150; refine cS.mono ?_; rintro e w' ⟨v, ss, rfl, rfl, hrow, hnil, hb⟩; obtain rfl : v = .slice none 0 0 := hnil.2 rfl)
    | fail)
  go_ret
  exact ⟨rfl, ((Below.refl _ w).alloc (Nat.le_refl _) _).trans (hb.mono (by simp))⟩
attribute [local go_sem] Oper.semAt_some

/-- What a look at a table finds. -/
theorem GrAt.look_V {g : Nat} {M : Cls Bal} {F : FP} {w : World} (h : GrAt balS.cod 178 g M F w) {a b : Int} (ha : (Lit.int .i64 a).wf = true) (hb : (Lit.int .i64 b).wf = true) :
    ∃ mv mi, w.cell? ⟨g, 0, none⟩ = some (.map mv) ∧ (Instr.lookup 176 (.map mv) (.int .i64 a) false).run Tryz.prog w = .ok (.map mi) w ∧
      (Instr.lookup 175 (.map mi) (.int .i64 b) false).run Tryz.prog w = .ok (balS.cod.enc ((cget M a b).getD balS.zero)) w := by
  have hu1 : Tryz.prog.underlying 176 = some (.map 3 175) := Tryz.underlying176
  have hu2 : Tryz.prog.underlying 175 = some (.map 3 47) := Tryz.underlying175
  have hz1 : ∀ w, (zeroValue 175).run Tryz.prog w = .ok (codM.enc none) w := fun w => Tryz.zeroValue175 w
  have hz2 : ∀ w, (zeroValue 47).run Tryz.prog w = .ok (balS.cod.enc balS.zero) w := fun w => balS.zeroRun w
  obtain ⟨_, _, _, (⟨rfl, hh⟩ | ⟨B, C, rm, cm, hh, hM, _⟩)⟩ := h
  · exact ⟨none, none, by rw [World.cell?, hh]; rfl, nil_look hu1 (hz1 w) ha false, nil_look hu2 (hz2 w) hb false⟩
  · have hl := hM.row.map.look (z0 := none) hu1 (hz1 w) ha
    cases hs : sget rm a with
    | none =>
      rw [hs] at hl
      refine ⟨some B, none, by rw [World.cell?, hh]; rfl, hl, ?_⟩
      have hr := hM.row.isNil hs
      have : cget M a b = none := by rw [cget, hr]; rfl
      rw [this]
      exact nil_look hu2 (hz2 w) hb false
    | some x =>
      obtain ⟨b', rfl, _, _, h3⟩ := hM.row.at_ a x hs
      rw [hs] at hl
      exact ⟨some B, some b', by rw [World.cell?, hh]; rfl, hl, h3.look hu2 (hz2 w) hb⟩
/-- A row's keys, rising. -/
theorem GrAt.rises_row_V {g : Nat} {M : Cls Bal} {F : FP} {w : World} (h : GrAt balS.cod 178 g M F w) (hlen : M.length ≤ 100000) {a : Int} (ha : (Lit.int .i64 a).wf = true) :
    ∃ mv mi, w.cell? ⟨g, 0, none⟩ = some (.map mv) ∧ (Instr.lookup 176 (.map mv) (.int .i64 a) false).run Tryz.prog w = .ok (.map mi) w ∧
      Calls Tryz.prog 146 #[.map mi] w (fun e w' => ∃ v, e = .returned v ∧ OwnN w.heap.size v ((rowOf M a).map (·.1)) w' ∧ Below w.heap.size w w') := by
  have hu1 : Tryz.prog.underlying 176 = some (.map 3 175) := Tryz.underlying176
  have hz1 : ∀ w, (zeroValue 175).run Tryz.prog w = .ok (codM.enc none) w := fun w => Tryz.zeroValue175 w
  have hnil : rowOf M a = [] → Calls Tryz.prog 146 #[.map none] w (fun e w' => ∃ v, e = .returned v ∧ OwnN w.heap.size v ((rowOf M a).map (·.1)) w' ∧ Below w.heap.size w w') := fun e => by
    refine (rising_V_nil w).mono ?_
    rintro _ w' ⟨rfl, hb⟩
    rw [e]
    exact ⟨_, rfl, OwnN.nil _ _, hb⟩
  have hr := row_length M a
  obtain ⟨_, _, _, (⟨rfl, hh⟩ | ⟨B, C, rm, cm, hh, hM, _⟩)⟩ := h
  · exact ⟨none, none, by rw [World.cell?, hh]; rfl, nil_look hu1 (hz1 w) ha false, hnil rfl⟩
  · have hl := hM.row.map.look (z0 := none) hu1 (hz1 w) ha
    cases hs : sget rm a with
    | none =>
      rw [hs] at hl
      exact ⟨some B, none, by rw [World.cell?, hh]; rfl, hl, hnil (hM.row.isNil hs)⟩
    | some x =>
      obtain ⟨b', rfl, _, _, h3⟩ := hM.row.at_ a x hs
      rw [hs] at hl
      refine ⟨some B, some b', by rw [World.cell?, hh]; rfl, hl, (rising_V h3 (by omega)).mono ?_⟩
      rintro e w' ⟨v, rfl, ho, _, hb⟩
      refine ⟨v, rfl, ?_, hb⟩
      unfold OwnN Is
      rw [List.length_map, List.map_map]
      exact ho

set_option maxHeartbeats 4000000 in
set_option maxRecDepth 100000 in
theorem row_iter_V (n : Nat) (bx ba g : Nat) (M : Cls Bal) (F : FP) (s : Int) (w : World) (hbx : w.cell? ⟨bx, 0, none⟩ = some (.pointer (some ⟨g, 0, none⟩))) (hba : w.cell? ⟨ba, 0, none⟩ = some (.int .i64 s)) (h : GrAt balS.cod 178 g M F w) (hlen : M.length ≤ 100000) (hs : (Lit.int .i64 s).wf = true)
    (G : FP) (hGb : G bx) (hGa : G ba) (hGF : ∀ k, F k → G k) :
    Iter Tryz.prog n 145 #[.pointer (some ⟨bx, 0, none⟩), .pointer (some ⟨ba, 0, none⟩)] (fun x : Int × Bal => #[.int .i64 x.1, balS.cod.enc x.2]) (rowOf M s) G w := by
  intro lp B Ψ J Jx Φ0 W hgw hG hΨ hΦ0 hJ hJx hround h0
  have hc1 : W.cell? ⟨bx, 0, none⟩ = some (.pointer (some ⟨g, 0, none⟩)) := (World.cell?_of_block (hG bx hGb).2).trans hbx
  have hc2 : W.cell? ⟨ba, 0, none⟩ = some (.int .i64 s) := (World.cell?_of_block (hG ba hGa).2).trans hba
  have hW : GrAt balS.cod 178 g M F W := h.keep hgw (fun k hk => (hG k (hGF k hk)).2)
  have hWd : GrAt balS.cod 178 g M F W.drew := hW.keep ⟨rfl, rfl, rfl, Nat.le_refl _⟩ (fun _ _ => rfl)
  obtain ⟨mv, mi, hcm, hlm, hrise⟩ := hWd.rises_row_V hlen hs
  have hcm : W.cell? ⟨g, 0, none⟩ = some (.map mv) := hcm
  obtain ⟨hs1, hs2, hs3⟩ := hJ _ _ _ h0
  have mixed : Tryz.prog.follows .mixedOrders = true := by kernel_rfl
  refine callsIn_of_wp Tryz.func145 rfl trivial ?_ rfl
  simp only [Tryz.ntmps145, List.size_toArray, List.length_cons, List.length_nil, Nat.reduceAdd, Nat.reduceSub, Array.replicate_succ, Array.replicate_zero, List.push_toArray, List.append_toArray, List.nil_append, List.cons_append]
  have hsrt := hW.1
  obtain ⟨xs, hxs⟩ : ∃ xs, xs = rowOf M s := ⟨_, rfl⟩
  obtain ⟨ks, hks⟩ : ∃ ks, ks = (rowOf M s).map (·.1) := ⟨_, rfl⟩
  rw [← hks] at hrise
  rw [← hxs] at hround ⊢
  have hkl : ks.length = xs.length := by rw [hks, hxs]; simp
  have hbig : (ks.length : Int) ≤ 100000 := by rw [hkl, hxs]; have := row_length M s; omega
  have HXS := Lib.hid hxs
  have HKS := Lib.hid (And.intro hks (And.intro hkl hsrt))
  clear hxs hks hkl hsrt
  have HW := Lib.hid hW
  have HRS := Lib.hid hrise
  have HRD := Lib.hid hround
  have HJ := Lib.hid hJ
  have HP := Lib.hid hΨ
  have HP0 := Lib.hid hΦ0
  have HG := Lib.hid hG
  have HGF := Lib.hid (And.intro hGb (And.intro hGa hGF))
  have HH0 := Lib.hid h0
  have HS3 := Lib.hid hs3
  have HS1 := Lib.hid hs1
  have HL := Lib.hid hlen
  have HWF := Lib.hid hs
  clear hW hWd hrise hround hJ hJx hG hΨ hΦ0 hbx hba hGb hGa hGF h0 hs1 hs3 hlen hs h
  gi_wp2_with fail
  refine region_meet (R := fun a wc => ∃ co ccap, a = { tmps := #[.func (.yield lp) #[] #[], .pointer (some ⟨bx, 0, none⟩), .pointer (some ⟨ba, 0, none⟩), undef, undef, undef, .pointer (some ⟨g, 0, none⟩), .bool false, .pointer (some ⟨g, 0, none⟩), .pointer (some ⟨g, 0, none⟩), .pointer (some ⟨g, 0, none⟩), .map mv, .int .i64 s, .map mi, .slice co ks.length ccap, .int .i64 ks.length, .int .i64 0, undef, undef, undef, undef, undef, undef, undef, undef, undef, undef, undef, undef, undef, undef, undef, undef], defers := [] } ∧ OwnN W.drew.heap.size (.slice co ks.length ccap) ks wc ∧ Below W.drew.heap.size W.drew wc) ?_ ?_
  · go_region_with (first | (go_at_call 146; refine HRS.out.mono ?_; rintro e wc ⟨vc, rfl, hoc, hbc⟩; obtain ⟨co, ccap, rfl⟩ := hoc.lenOf; have HOC := Lib.hid hoc; have HBC := Lib.hid hbc; clear hoc hbc) | fail)
    all_goals exact ⟨co, ccap, rfl, HOC.out, HBC.out⟩
  rintro _ wc ⟨co, ccap, rfl, hoc, hbc⟩
  have HOC := Lib.hid hoc
  have HBC := Lib.hid hbc
  clear hoc hbc
  have hcs : W.heap.size ≤ wc.heap.size := HBC.out.size
  have hbc' : Below W.heap.size W wc := ((Below.refl _ W).drew).trans (show Below W.heap.size W.drew wc from HBC.out)
  have HO1 := Lib.hid (Only.of_later (Ψ := Ψ) (Φ := Φ0) hbc')
  have hJc : J [] Φ0 wc := HS3.out wc (Grow.of_below hbc') (fun k hk => hbc'.block k (hk.elim (fun h => by omega) (fun h => (HS1.out k h).2)))
  have HJC := Lib.hid hJc
  have hkeep : ∀ wr, Only Ψ Φ0 wc wr → OwnN W.heap.size (.slice co ks.length ccap) ks wr ∧ GrAt balS.cod 178 g M F wr ∧ wr.cell? ⟨bx, 0, none⟩ = some (.pointer (some ⟨g, 0, none⟩)) ∧ wr.cell? ⟨ba, 0, none⟩ = some (.int .i64 s) := fun wr ho => by
    have hgk : ∀ k, G k → wr.heap[k]? = W.heap[k]? := fun k hk => by
      have hkW : k < W.heap.size := by have := (HG.out k hk).1; have := hgw.size; omega
      rw [ho.block k (by omega) (fun h => (HP.out k h).2 hk) (fun h => HP0.out k h hk)]
      exact hbc'.block k hkW
    refine ⟨OwnN.of HOC.out (Nat.le_refl _) (fun k hk => ?_), HW.out.keep ((Grow.of_below hbc').trans ho.grow) (fun k hk => hgk k (HGF.out.2.2 k hk)), (World.cell?_of_block (hgk bx HGF.out.1)).trans hc1, (World.cell?_of_block (hgk ba HGF.out.2.1)).trans hc2⟩
    obtain ⟨h1, h2⟩ := HOC.out.block hk
    have h1 : W.heap.size ≤ k := h1
    exact ho.block k h2 (fun h => by have := (HP.out k h).1; omega) (fun h => by have := (HS1.out k h).2; omega)
  have HK := Lib.hid hkeep
  clear hkeep hJc hbc' hc1 hc2 hlm hcm
  gi_wp2_with fail
  gi_loopw [16] (fun r wr => ∃ (k : Nat) (Φ : FP), k ≤ ks.length ∧ r = .int .i64 k ∧ J (xs.take k) Φ wr ∧ Only Ψ Φ0 wc wr ∧ (∀ j, Φ j → Φ0 j ∨ wc.heap.size ≤ j)) (fun r wr => ks.length - (intOf r).toNat)
  case atStart => exact ⟨0, Φ0, Nat.zero_le _, rfl, HJC.out, Only.refl _ _ _, fun j h => .inl h⟩
  case round =>
    obtain ⟨k, Φ, hk, rfl, hJ2, ho2, hn2⟩ := hrel
    obtain ⟨hkl, hkl2, hsrt⟩ := HKS.out
    by_cases hlt : k < ks.length
    · have hlt' : (k : Int) < ks.length := by omega
      obtain ⟨hoW, hGW, cb, ca⟩ := HK.out wr ho2
      obtain ⟨b, cap, hv, hcell, hbl, hbu⟩ := hoW.at hlt
      injection hv with hv1 hv2 hv3
      subst hv1
      have hltx : k < xs.length := by omega
      obtain ⟨x, hx⟩ : ∃ x, x = xs[k] := ⟨_, rfl⟩
      have hy : ks[k] = x.1 := by simp only [hkl, hx, HXS.out, List.getElem_map]
      rw [hy] at hcell
      have hxm : x ∈ rowOf M s := by rw [← HXS.out, hx]; exact List.getElem_mem _
      have hxM := (mem_rowOf (x := x)).1 hxm
      have hwfx := hGW.wf hxM
      have hget : cget M s x.1 = some x.2 := hsrt.get.2 hxM
      obtain ⟨mv', mi', cm, l1, l2⟩ := (hGW.keep (w' := wr.drew) ⟨rfl, rfl, rfl, Nat.le_refl _⟩ (fun _ _ => rfl)).look_V (a := s) (b := x.1) HWF.out hwfx.2
      rw [hget, Option.getD_some] at l2
      have cm : wr.cell? ⟨g, 0, none⟩ = some (.map mv') := cm
      have htk : xs.take k ++ [x] = xs.take (k + 1) := by rw [hx]; exact pre_snoc hltx
      have hpre : (xs.take k ++ [x]) <+: xs := by rw [htk]; exact List.take_prefix _ _
      obtain ⟨q1, q2, q3⟩ := HJ.out _ _ _ hJ2
      have hJd : J (xs.take k) Φ wr.drew := q3 wr.drew ⟨rfl, rfl, rfl, Nat.le_refl _⟩ (fun _ _ => rfl)
      obtain ⟨fn, tm, asg, bd, hyy, hR⟩ := HRD.out (xs.take k) x Φ wr.drew hpre hJd
      dsimp only at hyy
      obtain ⟨yv, hyv⟩ : ∃ yv, yv = x.1 := ⟨_, rfl⟩
      rw [← hyv] at hcell hyy l2
      obtain ⟨ev, hev⟩ : ∃ ev, ev = balS.cod.enc x.2 := ⟨_, rfl⟩
      rw [← hev] at hyy l2
      have HT := Lib.hid htk
      have HPR := Lib.hid hpre
      have HO2 := Lib.hid ho2
      have HN2 := Lib.hid hn2
      have HR := Lib.hid hR
      clear htk hpre q1 q2 q3 hx hy hyv hev hJ2 hJd ho2 hn2 hR hxm hxM hget hwfx hoW hGW hkl hkl2 hsrt hv2 hv3
      gi_wp2_with fail
      refine wpIn_region_still_tail 10 mixed (by kernel_rfl) ?_
      simp only [List.take_succ_cons, List.take_zero, List.drop_succ_cons, List.drop_zero]
      change wpStill _ _ wr.drew _ _ _
      repeat still_step
      refine wpStill_nil ?_
      change wpListIn _ _ _ _ _ _ _ wr.drew
      gi_wp2
      refine HR.out.mono ?_
      rintro e W' ⟨Φ', hn', ho', (⟨rfl, hJ'⟩ | ⟨rfl, hJ'⟩)⟩
      · have ho3 : Only Ψ Φ0 wc W' := HO2.out.trans (Only.undrew ho') HN2.out
        have hn3 : ∀ j, Φ' j → Φ0 j ∨ wc.heap.size ≤ j := fun j hj => (hn' j hj).elim (HN2.out j) (fun h => .inr (by have := HO2.out.grow.size; have : wr.heap.size ≤ j := h; omega))
        gi_wp2
        exact ⟨⟨k + 1, Φ', hlt, by go_num, by rw [← HT.out]; exact hJ', ho3, hn3⟩, by simp [intOf]; omega⟩
      · have ho3 : Only Ψ Φ0 wc W' := HO2.out.trans (Only.undrew ho') HN2.out
        have hn3 : ∀ j, Φ' j → Φ0 j ∨ wc.heap.size ≤ j := fun j hj => (hn' j hj).elim (HN2.out j) (fun h => .inr (by have := HO2.out.grow.size; have : wr.heap.size ≤ j := h; omega))
        gi_wp2
        refine bodyPost_ret (results_none rfl _ _ _) rfl ?_
        exact ⟨⟨_, rfl⟩, Φ', fun j hj => (hn3 j hj).imp id (fun h => by omega), HO1.out.trans ho3 (fun j h => .inl h), .inr ⟨_, HPR.out, hJ'⟩⟩
    · have hkn : k = ks.length := by omega
      subst hkn
      rw [hkl2, List.take_length] at hJ2
      clear hkl hkl2 hsrt
      gi_wp2
      refine bodyPost_end (results_none rfl _ _ _) rfl ?_
      exact ⟨⟨_, rfl⟩, Φ, fun j hj => (hn2 j hj).imp id (fun h => by omega), HO1.out.trans ho2 (fun j h => .inl h), .inl hJ2⟩

theorem enters_row1_V : ∀ args w, (callFunc 145 args).run Tryz.prog w = .ok (.enter 145 args) w := enters_of Tryz.func145 (by kernel_rfl) rfl
theorem grid_row_V (p : Option Addr) (s : Int) (w : World) : Calls Tryz.prog 131 #[.pointer p, .int .i64 s] w fun e w' => e = .returned (.func (.func 145) #[] #[.pointer (some ⟨w.heap.size, 0, none⟩), .pointer (some ⟨w.heap.size + 1, 0, none⟩)]) ∧ w' = (w.alloc (.cells #[.pointer p] 107)).alloc (.cells #[.int .i64 s] 3) := by
  go_enter Tryz.func131, Tryz.ntmps131
  go_wp2
  go_ret
  exact ⟨rfl, rfl⟩
end Go.Proofs.YtpkamfbjgdmmoaaGreat
end

section
namespace Go.Proofs.YtpkamfbjgdmmoaaGreat
open Go.RowKit Go.Shelf
attribute [local go_sem] Oper.semAt_some
set_option linter.unusedVariables false
set_option linter.unusedSimpArgs false

def prOf_V (x : Int × Bal) : List Value := [.int .i64 x.1, .int .i64 x.2.k, .bool x.2.aye, .int .i64 x.2.l, .int .i64 x.2.a, .int .i64 x.2.n, .int .i64 x.2.s]
theorem pairInfo_V : (Tryz.prog.info? 254).map (fun i => (i.zero, i.size, i.bytes)) = some (some (.agg #[.int .i64 0, .int .i64 0, .bool false, .int .i64 0, .int .i64 0, .int .i64 0, .int .i64 0]), 7, 56) := by kernel_rfl
def pair_V : RowTy Tryz.prog (Int × Bal) where
  T := 254
  S := 252
  k := 7
  f := prOf_V
  len := fun _ => rfl
  one := fun x u hu => by
    simp only [prOf_V, List.mem_cons, List.not_mem_nil, or_false] at hu
    rcases hu with rfl | rfl | rfl | rfl | rfl | rfl | rfl <;> rfl
  pos := by decide
  small := by decide
  slice := Tryz.underlying252
  info := by
    obtain ⟨i0, hi, hz⟩ := Option.map_eq_some_iff.1 pairInfo_V
    simp only [Prod.mk.injEq] at hz
    obtain ⟨h1, h2, h3⟩ := hz
    exact ⟨i0, _, _, hi, h1, h2, rfl, h3, by decide⟩
  row := ⟨_, Tryz.underlying254, rfl⟩
def encs_V (x : Int × Bal) : Array Value := #[.int .i64 x.1, .agg #[.int .i64 x.2.k, .bool x.2.aye, .int .i64 x.2.l, .int .i64 x.2.a, .int .i64 x.2.n, .int .i64 x.2.s]]
set_option maxHeartbeats 4000000 in
set_option maxRecDepth 100000 in
theorem still_Now_V {m : Nat} (gf : Nat) (lbx : Array Value) (xs : List (Int × Bal)) (w : World) (eg : ∀ args w, (callFunc gf args).run Tryz.prog w = .ok (.enter gf args) w) (hit : Iter Tryz.prog m gf lbx encs_V xs (fun k => k < w.heap.size) w) (hlen : xs.length ≤ 1000000) :
    Calls Tryz.prog 144 #[.func (.func gf) #[] lbx] w fun e w' => ∃ v, e = .returned (.func (.func 152) #[] #[.pointer (some ⟨w.heap.size, 0, none⟩)]) ∧ Boxed w' w.heap.size 252 v ∧ OwnR pair_V (w.heap.size + 1) v xs w' ∧ Below w.heap.size w w' := by
  refine (callsIn_wide (n := m + 2)).1 ?_
  refine callsIn_of_wp_marks Tryz.func144 rfl trivial ?_ rfl
  simp only [Tryz.ntmps144, List.size_toArray, List.length_cons, List.length_nil, Nat.reduceAdd, Nat.reduceSub, Array.replicate_succ, Array.replicate_zero, List.push_toArray, List.append_toArray, List.nil_append, List.cons_append]
  gi_wp2_with fail
  obtain ⟨w1, hw1⟩ : ∃ w1, w1 = w.alloc (.cells #[.slice none 0 0] 252) := ⟨_, rfl⟩
  rw [← hw1]
  obtain ⟨lb, hlb⟩ : ∃ lb, lb = w.heap.size := ⟨_, rfl⟩
  have hB : Below w.heap.size w w1 := by rw [hw1]; exact (Below.refl _ w).alloc (Nat.le_refl _) _
  have hsz : w1.heap.size = lb + 1 := by rw [hw1, hlb]; simp
  have x0 : Boxed w1 lb 252 (.slice none 0 0) := by rw [hw1, hlb]; exact Boxed.new w _ _
  have HB1 := Lib.hid hB
  have HIT := Lib.hid hit
  have HSZ := Lib.hid hsz
  have l1 : lb < w1.heap.size := by omega
  have l2 : w.heap.size ≤ lb := by omega
  have HEG := Lib.hid eg
  rw [← hlb]
  have HLB := Lib.hid hlb
  have HLN := Lib.hid hlen
  clear hw1 hit hB hsz hlb eg hlen
  refine range_outerAI (n := m) (gf := gf) (lb := lbx) rfl HEG.out HIT.out (Grow.of_below HB1.out) (fun k hk => ⟨hk, HB1.out.block k hk⟩) (fun _ => rfl)
    (fun k => k = lb) (by rintro k rfl; exact ⟨l1, fun h => by omega⟩) (ColI pair_V w1.heap.size lb) (fun _ _ _ _ => False) (ColI.stab l1) (fun c _ _ _ h => h.elim)
    ⟨_, x0, OwnR.nil _ _, fun k => ⟨fun h => h.elim, fun h => by cases h⟩, Nat.le_refl _⟩
    (fun x N => { tmps := #[.func (.func gf) #[] lbx, undef, .nilFunc, .pointer (some ⟨lb, 0, none⟩), .int .i64 x.1, .pointer (some ⟨N, 0, none⟩), .func (.func gf) #[] lbx, .int .i64 x.1, .agg #[.int .i64 x.2.k, .bool x.2.aye, .int .i64 x.2.l, .int .i64 x.2.a, .int .i64 x.2.n, .int .i64 x.2.s], undef, undef, undef, undef, undef, undef, undef], defers := [] })
    (fun x N W => W.heap[N]? = some (.cells #[.int .i64 x.2.k, .bool x.2.aye, .int .i64 x.2.l, .int .i64 x.2.a, .int .i64 x.2.n, .int .i64 x.2.s] 47 (0, 0))) (fun x N W W' h e => e.trans h) ?assign ?body ?done ?stop
  case assign =>
    intro l x W K hK
    simp only [encs_V]
    gi_wp2
    exact hK _ ((Below.refl _ W).alloc (Nat.le_refl _) _) (by simp) (World.alloc_heap_new _ _)
  case body =>
    rintro l pre x Φ N W hpx ⟨v1, hI⟩ hl1 hΦ - hlN hNW hAt
    have hpl := hpx.length_le
    rw [List.length_append, List.length_singleton] at hpl
    have hpl2 : pre.length ≤ 1000000 := by have := HLN.out; omega
    obtain ⟨ao1, cap1, rfl⟩ := hI.own.lenOf
    obtain ⟨pl, hm⟩ : ∃ pl, pl = pre.length := ⟨_, rfl⟩
    rw [← hm] at hI
    have c0 := hI.bx.cell
    have hlW : lb < W.heap.size := by have := hI.sz; omega
    have HI := Lib.hid hI
    have HPH := Lib.hid hΦ
    have HM := Lib.hid hm
    have HPL := Lib.hid hpl2
    have hsW : w1.heap.size ≤ W.heap.size := hI.sz
    have cN0 : W.cell? ⟨N, 0, none⟩ = some (.int .i64 x.2.k) := by rw [World.cell?, hAt]; rfl
    have cN1 : W.cell? ⟨N, 1, none⟩ = some (.bool x.2.aye) := by rw [World.cell?, hAt]; rfl
    have cN2 : W.cell? ⟨N, 2, none⟩ = some (.int .i64 x.2.l) := by rw [World.cell?, hAt]; rfl
    have cN3 : W.cell? ⟨N, 3, none⟩ = some (.int .i64 x.2.a) := by rw [World.cell?, hAt]; rfl
    have cN4 : W.cell? ⟨N, 4, none⟩ = some (.int .i64 x.2.n) := by rw [World.cell?, hAt]; rfl
    have cN5 : W.cell? ⟨N, 5, none⟩ = some (.int .i64 x.2.s) := by rw [World.cell?, hAt]; rfl
    clear hI hΦ hm hpl hpl2
    gi_wp2_with (first

      | (refine wplIn_appR (r := pair_V) (y := x) rfl rfl rfl rfl ((OwnR.of HI.out.own (Nat.le_refl _) (fun k hk => Below.heap_alloc _ _ _ (HI.out.own.block hk).2))) (rangeAt_whole (T := 254) (by exact World.alloc_heap_new _ _)) HPL.out (by have h := hsW; rw [World.size_alloc]; omega) ?_; intro v' w3 hO hg3 hat3 hne; have cB : w3.cell? ⟨lb, 0, none⟩ = some (.slice ao1 pl cap1) := (World.cell?_of_block (a := ⟨lb, 0, none⟩) ((hg3.block lb (by rw [World.size_alloc]; omega) (fun e => by have := (HI.out.own.block e.symm).1; omega)).trans (Below.heap_alloc _ _ _ hlW))).trans c0; have fB : w3.frozen? ⟨lb, 0, none⟩ = false := ((HI.out.bx.alloc _).kept hg3 (fun e => by have := (HI.out.own.block e.symm).1; omega)).frozen; obtain ⟨ao2, cap2, rfl⟩ := hO.lenOf; obtain ⟨m2, hm2⟩ : ∃ m2, m2 = (pre ++ [x]).length := ⟨_, rfl⟩; rw [← hm2] at hO hat3; rw [← hm2]; have HO := Lib.hid hO; have HG3 := Lib.hid hg3; have HAT := Lib.hid hat3; clear hO hg3 hat3 hm2 hne)
      | fail)
    exact ColC.step HI.out l1 rfl ((Below.refl _ W).alloc (Nat.le_refl _) _) HO.out HG3.out HAT.out
  case done =>
    rintro D Φ W3 ⟨v3, hC⟩ hon hD hnD hK
    have hiff := hC.iff
    have HC := Lib.hid hC
    have HON := Lib.hid hon
    have HKK := Lib.hid hK
    clear hC hon hK
    gi_wp2
    refine ⟨by simp, .inl ⟨_, _, rfl, run_takeDeferred HKK.out, ?_⟩⟩
    have hC := HC.out
    have hO2 := HON.out
    have hw2 := HB1.out
    have hsz := HSZ.out
    have hlb := HLB.out
    subst hlb
    refine ⟨_, by simp [results, Tryz.results144, go_sem] <;> rfl, v3, rfl, (put_other (by omega)).trans hC.bx, hC.own.of (by omega) (fun k hk => put_other (fun e => hnD ((hiff D).2 (by rw [← e]; exact hk)))), ?_⟩
    refine ⟨hO2.grow.os.trans hw2.os, hO2.grow.tape.trans hw2.tape, hO2.grow.output.trans hw2.output, by have h1 := hO2.grow.size; have h2 := hw2.size; simp [World.putObj]; omega, fun k hk => ?_⟩
    rw [put_other (by omega), hO2.block k (by omega) (by omega) (fun h => h)]
    exact hw2.block k (by omega)
  case stop =>
    rintro D Φ c pre W3 hpre h
    exact h.elim

set_option maxHeartbeats 4000000 in
set_option maxRecDepth 100000 in
theorem now1_iter_V (n : Nat) (bx : Nat) (v : Value) (xs : List (Int × Bal)) (w : World) (hbx : Boxed w bx 252 v) (hr : RdR pair_V w v xs) (hl : xs.length ≤ 1000000) (G : FP) (hGb : G bx) (hGv : ∀ k, v.ownBlock = some k → G k) :
    Iter Tryz.prog n 152 #[.pointer (some ⟨bx, 0, none⟩)] encs_V xs G w := by
  intro lp B Ψ J Jx Φ0 W hgw hG hΨ hΦ0 hJ hJx hround h0
  have hc1 : W.cell? ⟨bx, 0, none⟩ = some v := (World.cell?_of_block (hG bx hGb).2).trans hbx.cell
  have hrW : RdR pair_V W v xs := hr.keep hgw.size (fun k hk => (hG k (hGv k hk)).2)
  obtain ⟨hs1, hs2, hs3⟩ := hJ _ _ _ h0
  obtain ⟨ao, cap, rfl⟩ := hr.lenOf
  have hkeep : ∀ wr, Only Ψ Φ0 W wr → RdR pair_V wr (.slice ao xs.length cap) xs := fun wr ho => hrW.keep ho.grow.size (fun k hk => ho.block k (by have := (hG k (hGv k hk)).1; have := hgw.size; omega) (fun h => (hΨ k h).2 (hGv k hk)) (fun h => hΦ0 k h (hGv k hk)))
  refine callsIn_of_wp Tryz.func152 rfl trivial ?_ rfl
  simp only [Tryz.ntmps152, List.size_toArray, List.length_cons, List.length_nil, Nat.reduceAdd, Nat.reduceSub, Array.replicate_succ, Array.replicate_zero, List.push_toArray, List.append_toArray, List.nil_append, List.cons_append]
  have HK := Lib.hid hkeep
  have HL := Lib.hid hl
  have HRD := Lib.hid hround
  have HJ := Lib.hid hJ
  have HH0 := Lib.hid h0
  have hbig : (xs.length : Int) ≤ 1000000 := by omega
  clear hr hrW hround hJ hJx hG hΨ hΦ0 hbx hGb hGv h0 hs3 hl hkeep
  gi_wp2_with fail
  gi_loopw [7] (fun r wr => ∃ (k : Nat) (Φ : FP), k ≤ xs.length ∧ r = .int .i64 k ∧ J (xs.take k) Φ wr ∧ Only Ψ Φ0 W wr ∧ (∀ j, Φ j → Φ0 j ∨ W.heap.size ≤ j)) (fun r wr => xs.length - (RowKit.intOf r).toNat)
  case atStart => exact ⟨0, Φ0, Nat.zero_le _, rfl, HH0.out, Only.refl _ _ _, fun j h => .inl h⟩
  case round =>
    obtain ⟨k, Φ, hk, rfl, hJ2, ho2, hn2⟩ := hrel
    by_cases hlt : k < xs.length
    · have hlt' : (k : Int) < xs.length := by omega
      obtain ⟨x, hx⟩ : ∃ x, x = xs[k] := ⟨_, rfl⟩
      obtain ⟨b, off, rfl, hrng, hrb⟩ := (HK.out wr ho2).at hlt
      rw [← hx] at hrng
      have htk : xs.take k ++ [x] = xs.take (k + 1) := by rw [hx]; exact take_snoc hlt
      have hpre : (xs.take k ++ [x]) <+: xs := by rw [htk]; exact List.take_prefix _ _
      obtain ⟨q1, q2, q3⟩ := HJ.out _ _ _ hJ2
      obtain ⟨W1, hW1⟩ : ∃ W1, W1 = wr.alloc (.cells (prOf_V x).toArray 254) := ⟨_, rfl⟩
      have hb1 : Below wr.heap.size wr W1 := by rw [hW1]; exact (Below.refl _ wr).alloc (Nat.le_refl _) _
      have hJ1 : J (xs.take k) Φ W1 := q3 W1 (Grow.of_below hb1) (fun j hj => hb1.block j (hj.elim (fun h => by omega) (fun h => (q1 j h).2)))
      have hcx : W1.heap[wr.heap.size]? = some (.cells (prOf_V x).toArray 254 (0, 0)) := by rw [hW1]; exact World.alloc_heap_new _ _
      obtain ⟨fn, tm, asg, bd, hyy, hR⟩ := HRD.out (xs.take k) x Φ W1 hpre hJ1
      simp only [encs_V] at hyy
      have d0 : W1.cell? ⟨wr.heap.size, 0, none⟩ = some (.int .i64 x.1) := by rw [World.cell?, hcx]; rfl
      have d1 : W1.cell? ⟨wr.heap.size, 1, none⟩ = some (.int .i64 x.2.k) := by rw [World.cell?, hcx]; rfl
      have d2 : W1.cell? ⟨wr.heap.size, 2, none⟩ = some (.bool x.2.aye) := by rw [World.cell?, hcx]; rfl
      have d3 : W1.cell? ⟨wr.heap.size, 3, none⟩ = some (.int .i64 x.2.l) := by rw [World.cell?, hcx]; rfl
      have d4 : W1.cell? ⟨wr.heap.size, 4, none⟩ = some (.int .i64 x.2.a) := by rw [World.cell?, hcx]; rfl
      have d5 : W1.cell? ⟨wr.heap.size, 5, none⟩ = some (.int .i64 x.2.n) := by rw [World.cell?, hcx]; rfl
      have d6 : W1.cell? ⟨wr.heap.size, 6, none⟩ = some (.int .i64 x.2.s) := by rw [World.cell?, hcx]; rfl
      have HRN := Lib.hid hrng
      have HT := Lib.hid htk
      have HPR := Lib.hid hpre
      have HO2 := Lib.hid ho2
      have HN2 := Lib.hid hn2
      have HR := Lib.hid hR
      have HW1 := Lib.hid hW1
      have HB1 := Lib.hid hb1
      clear htk hpre q1 q2 q3 hx hJ2 hJ1 ho2 hn2 hR hrng hW1 hb1 hcx
      gi_wp2_with (first
        | (refine wplIn_loadR (r := pair_V) (t := x) _ rfl rfl rfl HRN.out ?_)
        | (refine wplIn_allocR (r := pair_V) rfl rfl rfl ?_; intro C hC)
        | (refine wplIn_storeR (r := pair_V) (t := x) (C := C) _ _ rfl rfl rfl rfl rfl (World.alloc_heap_new wr _) hC ?_; rw [World.setRow_alloc_new]; rw [show wr.alloc (.cells (pair_V.f x).toArray pair_V.T) = W1 from HW1.out.symm])

        | fail)
      refine HR.out.mono ?_
      rintro e W' ⟨Φ', hn', ho', (⟨rfl, hJ'⟩ | ⟨rfl, hJ'⟩)⟩
      · have ho3 : Only Ψ Φ0 W W' := (HO2.out.trans (Φ' := Φ0) (Only.of_later HB1.out) (fun j h => .inl h)).trans ho' HN2.out
        have hn3 : ∀ j, Φ' j → Φ0 j ∨ W.heap.size ≤ j := fun j hj => (hn' j hj).elim (HN2.out j) (fun h => .inr (by have := HO2.out.grow.size; have := HB1.out.size; omega))
        gi_wp2
        exact ⟨⟨k + 1, Φ', hlt, by go_num, by rw [← HT.out]; exact hJ', ho3, hn3⟩, by simp [RowKit.intOf]; omega⟩
      · have ho3 : Only Ψ Φ0 W W' := (HO2.out.trans (Φ' := Φ0) (Only.of_later HB1.out) (fun j h => .inl h)).trans ho' HN2.out
        have hn3 : ∀ j, Φ' j → Φ0 j ∨ W.heap.size ≤ j := fun j hj => (hn' j hj).elim (HN2.out j) (fun h => .inr (by have := HO2.out.grow.size; have := HB1.out.size; omega))
        gi_wp2
        refine bodyPost_ret (results_none rfl _ _ _) rfl ?_
        exact ⟨⟨_, rfl⟩, Φ', hn3, ho3, .inr ⟨_, HPR.out, hJ'⟩⟩
    · have hkn : k = xs.length := by omega
      subst hkn
      rw [List.take_length] at hJ2
      gi_wp2
      refine bodyPost_end (results_none rfl _ _ _) rfl ?_
      exact ⟨⟨_, rfl⟩, Φ, hn2, ho2, .inl hJ2⟩
theorem still_Begun_V (f : Value) (w : World) (hf : ∃ g lb, f = .func g #[] lb) : Calls Tryz.prog 130 #[f] w fun e w' => e = .returned (.func (.func 143) #[] #[.pointer (some ⟨w.heap.size, 0, none⟩)]) ∧ w' = w.alloc (.cells #[f] 184) := by
  obtain ⟨g, lb, rfl⟩ := hf
  go_enter Tryz.func130, Tryz.ntmps130
  go_wp2
  go_ret
  exact ⟨rfl, rfl⟩
theorem enters_begun_V : ∀ args w, (callFunc 143 args).run Tryz.prog w = .ok (.enter 143 args) w := enters_of Tryz.func143 (by kernel_rfl) rfl
theorem enters_now_V : ∀ args w, (callFunc 152 args).run Tryz.prog w = .ok (.enter 152 args) w := enters_of Tryz.func152 (by kernel_rfl) rfl
set_option maxHeartbeats 4000000 in
set_option maxRecDepth 100000 in
/-- What Begun tells: what another way tells when the ranging begins. -/
theorem begun_iter_V {m : Nat} (n : Nat) (sb : Nat) (gf : Nat) (lbx : Array Value) (xs : List (Int × Bal)) (G : FP) (w : World) (hsb : Boxed w sb 184 (.func (.func gf) #[] lbx)) (eg : ∀ args w, (callFunc gf args).run Tryz.prog w = .ok (.enter gf args) w) (hit : Iter Tryz.prog m gf lbx encs_V xs G w) (hGs : G sb) (hGl : ∀ k, G k → k < w.heap.size) (hlen : xs.length ≤ 1000000) :
    IterF Tryz.prog n 143 #[.pointer (some ⟨sb, 0, none⟩)] encs_V xs G w := by
  intro lp B Ψ J Jx Φ0 W hgw hG hΨ hJ hJx hround h0
  have hc1 : W.cell? ⟨sb, 0, none⟩ = some (.func (.func gf) #[] lbx) := (World.cell?_of_block (hG sb hGs).2).trans hsb.cell
  have hitW : Iter Tryz.prog m gf lbx encs_V xs (fun k => k < W.heap.size) W := hit.later hgw hG (fun k hk => Nat.lt_of_lt_of_le (hGl k hk) hgw.size)
  have hnow := still_Now_V gf lbx xs W eg hitW hlen
  obtain ⟨hs1, hs2, hs3⟩ := hJ _ _ _ h0
  have hwalk : ∀ v W1, Boxed W1 W.heap.size 252 v → OwnR pair_V (W.heap.size + 1) v xs W1 → Below W.heap.size W W1 →
      CallsIn Fence.wide n Tryz.prog 152 #[.func (.yield lp) #[] #[], .pointer (some ⟨W.heap.size, 0, none⟩)] W1 fun e W' => (∃ v, e = .returned v) ∧ Leaves Ψ Φ0 W (fun Φ' W' => J xs Φ' W' ∨ ∃ pre, pre <+: xs ∧ Jx pre Φ' W') W' := by
    intro v W1 hb ho hB
    have hJ1 : J [] Φ0 W1 := hs3 W1 (Grow.of_below hB) (fun k hk => hB.block k (hk.elim (fun h => by omega) (fun h => (hs1 k h).2)))
    have hi := now1_iter_V n W.heap.size v xs W1 hb ho.reads hlen (fun k => W.heap.size ≤ k ∧ k < W1.heap.size) ⟨Nat.le_refl _, hb.lt⟩ (fun k hk => ⟨by have := (ho.block hk).1; omega, (ho.block hk).2⟩)
    have hcall := hi lp B Ψ J Jx Φ0 W1 (Grow.refl _) (fun k hk => ⟨hk.2, rfl⟩) (fun k hk => ⟨hΨ k hk, fun h => by have := hΨ k hk; omega⟩) (fun k hk h => by have := (hs1 k hk).2; omega) hJ hJx hround hJ1
    refine (callsIn_wide.2 (callsIn_wide.1 hcall)).mono ?_
    rintro e W' ⟨he, Φ', hn, ho', hR⟩
    exact ⟨he, Φ', fun k hk => (hn k hk).imp id (fun h => by have := hB.size; omega), (Only.of_later hB).trans ho' (fun j h => .inl h), hR⟩
  have HW := Lib.hid hwalk
  have HN := Lib.hid hnow
  clear hwalk hnow hround hJ hJx hG hΨ hsb hit hitW h0 hs1 hs3 hGs hGl hlen eg
  refine callsIn_of_wp Tryz.func143 rfl trivial ?_ rfl
  simp only [Tryz.ntmps143, List.size_toArray, List.length_cons, List.length_nil, Nat.reduceAdd, Nat.reduceSub, Array.replicate_succ, Array.replicate_zero, List.push_toArray, List.append_toArray, List.nil_append, List.cons_append]
  have en := enters_now_V
  gi_wp2_with (first
    | (gi_at_call 144; refine (callsIn_wide.2 HN.out).mono ?_; rintro e W1 ⟨v, rfl, hb, ho, hB⟩; have H1 := Lib.hid (And.intro hb (And.intro ho hB)); clear hb ho hB)
    | (refine ⟨trivial, ?_⟩; gi_at_call 144; refine (callsIn_wide.2 HN.out).mono ?_; rintro e W1 ⟨v, rfl, hb, ho, hB⟩; have H1 := Lib.hid (And.intro hb (And.intro ho hB)); clear hb ho hB)
    | (gi_at_call 152; refine (callsIn_wide.2 (callsIn_wide.1 (HW.out _ _ H1.out.1 H1.out.2.1 H1.out.2.2))).mono ?_; rintro e W' ⟨⟨v', rfl⟩, hR⟩; have H2 := Lib.hid hR; clear hR)
    | (refine ⟨trivial, ?_⟩; gi_at_call 152; refine (callsIn_wide.2 (callsIn_wide.1 (HW.out _ _ H1.out.1 H1.out.2.1 H1.out.2.2))).mono ?_; rintro e W' ⟨⟨v', rfl⟩, hR⟩; have H2 := Lib.hid hR; clear hR)
    | fail)
  refine bodyPost_end (results_none rfl _ _ _) rfl ?_
  exact ⟨⟨_, rfl⟩, H2.out⟩
end Go.Proofs.YtpkamfbjgdmmoaaGreat
end

section
namespace Go.Proofs.YtpkamfbjgdmmoaaGreat
open Go.RowKit Go.Maps Go.Shelf
set_option linter.unusedVariables false
set_option linter.unusedSimpArgs false

set_option maxRecDepth 100000 in
set_option maxHeartbeats 2000000 in
theorem grid_Row_V {g : Nat} {M : Cls Bal} {F : FP} {w : World} (h : GrAt balS.cod 178 g M F w) (hlen : M.length ≤ 100000) {s : Int} (hs : (Lit.int .i64 s).wf = true) :
    Calls Tryz.prog 112 #[.pointer (some ⟨g, 0, none⟩), .int .i64 s] w fun e w' => ∃ f, e = .returned f ∧ Way Tryz.prog encs_V f (rowOf M s) w' ∧ Below w.heap.size w w' := by
  have c1 := grid_row_V (some ⟨g, 0, none⟩) s w
  have hway : ∀ w', w' = ((w.alloc (.cells #[.pointer (some ⟨g, 0, none⟩)] 107)).alloc (.cells #[.int .i64 s] 3)).alloc (.cells #[.func (.func 145) #[] #[.pointer (some ⟨w.heap.size, 0, none⟩), .pointer (some ⟨w.heap.size + 1, 0, none⟩)]] 184) →
      Way Tryz.prog encs_V (.func (.func 143) #[] #[.pointer (some ⟨w.heap.size + 2, 0, none⟩)]) (rowOf M s) w' ∧ Below w.heap.size w w' := by
    intro w' hw'
    have hB : Below w.heap.size w w' := by rw [hw']; exact (((Below.refl _ w).alloc (Nat.le_refl _) _).alloc (by simp) _).alloc (by simp; omega) _
    have hsz : w'.heap.size = w.heap.size + 3 := by rw [hw']; simp
    have b0 : Boxed w' w.heap.size 107 (.pointer (some ⟨g, 0, none⟩)) := by rw [hw']; exact ((Boxed.new w _ _).alloc _).alloc _
    have b1 : Boxed w' (w.heap.size + 1) 3 (.int .i64 s) := by
      have := Boxed.new (w.alloc (.cells #[.pointer (some ⟨g, 0, none⟩)] 107)) 3 (.int .i64 s)
      rw [World.size_alloc] at this
      rw [hw']; exact this.alloc _
    have b2 : Boxed w' (w.heap.size + 2) 184 (.func (.func 145) #[] #[.pointer (some ⟨w.heap.size, 0, none⟩), .pointer (some ⟨w.heap.size + 1, 0, none⟩)]) := by
      have := Boxed.new ((w.alloc (.cells #[.pointer (some ⟨g, 0, none⟩)] 107)).alloc (.cells #[.int .i64 s] 3)) 184 (.func (.func 145) #[] #[.pointer (some ⟨w.heap.size, 0, none⟩), .pointer (some ⟨w.heap.size + 1, 0, none⟩)])
      rw [World.size_alloc, World.size_alloc] at this
      rw [hw']; exact this
    have hg' : GrAt balS.cod 178 g M F w' := h.keep (Grow.of_below hB) (fun k hk => hB.block k (h.2.2.1 k hk))
    have hi := row_iter_V 0 w.heap.size (w.heap.size + 1) g M F s w' b0.cell b1.cell hg' hlen hs (fun k => k < w'.heap.size) (by omega) (by omega) (fun k hk => hg'.2.2.1 k hk)
    refine ⟨⟨_, _, rfl, enters_begun_V, fun n => ?_⟩, hB⟩
    exact begun_iter_V n (w.heap.size + 2) _ _ (rowOf M s) (fun k => k < w'.heap.size) w' b2 enters_row1_V hi (by omega) (fun k hk => hk) (by have := row_length M s; omega)
  have HW := Lib.hid hway
  have HC := Lib.hid c1
  clear c1 hway h hlen hs
  go_enter Tryz.func112, Tryz.ntmps112
  go_wp2_with (first
    | (go_at_call 131; refine HC.out.mono ?_; rintro e w1 ⟨rfl, rfl⟩)
    | (go_at_call 130; refine (still_Begun_V _ _ ⟨_, _, rfl⟩).mono ?_; rintro e w2 ⟨rfl, rfl⟩)
    | fail)
  go_ret
  exact ⟨_, rfl, (HW.out _ rfl).1, (HW.out _ rfl).2⟩
end Go.Proofs.YtpkamfbjgdmmoaaGreat
end

section
namespace Go.Proofs.YtpkamfbjgdmmoaaGreat
open Go.RowKit
set_option linter.unusedVariables false

/-- AN ITERATOR's PROMISE: its data lie in the blocks of G (which the rounds leave alone) and of G0 (which it reads only when it begins); of other blocks it reads only what Tr says of them. -/
def IterT {α : Type} (P : Program) (n : Nat) (gf : Nat) (lb : Array Value) (encs : α → Array Value) (xs : List α) (G G0 : FP) (Tr : World → Prop) (w : World) : Prop :=
  ∀ (l B : Nat) (Ψ : FP) (J Jx : List α → FP → World → Prop) (Φ0 : FP) (W : World), Grow w W → (∀ k, G k ∨ G0 k → k < w.heap.size ∧ W.heap[k]? = w.heap[k]?) → (∀ k, Ψ k → k < B ∧ ¬ G k) → (∀ k, Φ0 k → ¬ G k) → Stab B J → Stab B Jx → (∀ pre Φ W1, J pre Φ W1 → Only Ψ Φ0 W W1 → Tr W1) →
    (∀ pre x Φ W1, (pre ++ [x]) <+: xs → J pre Φ W1 → RoundOk P n l encs Ψ J Jx pre x Φ W1) → J [] Φ0 W →
    CallsIn Fence.wide (n + 1) P gf (#[.func (.yield l) #[] #[]] ++ lb) W fun e W' => (∃ v, e = .returned v) ∧ Leaves Ψ Φ0 W (fun Φ' W' => J xs Φ' W' ∨ ∃ pre, pre <+: xs ∧ Jx pre Φ' W') W'
section
variable {P : Program} {α : Type}
/-- .. where nothing of it is written at all. -/
theorem IterT.iter {n gf : Nat} {lb : Array Value} {encs : α → Array Value} {xs : List α} {G G0 G' : FP} {Tr : World → Prop} {w : World} (h : IterT P n gf lb encs xs G G0 Tr w) (hG : ∀ k, G k ∨ G0 k → G' k) (hs : ∀ W, (∀ k, G' k → k < w.heap.size ∧ W.heap[k]? = w.heap[k]?) → Tr W) : Iter P n gf lb encs xs G' w := by
  intro l B Ψ J Jx Φ0 W hgw hW hΨ hΦ hJ hJx hr h0
  refine h l B Ψ J Jx Φ0 W hgw (fun k hk => hW k (hG k hk)) (fun k hk => ⟨(hΨ k hk).1, fun hk' => (hΨ k hk).2 (hG k (.inl hk'))⟩) (fun k hk hk' => hΦ k hk (hG k (.inl hk'))) hJ hJx (fun pre Φ W1 _ ho => hs W1 fun k hk => ⟨(hW k hk).1, ?_⟩) hr h0
  exact (ho.block k (Nat.lt_of_lt_of_le (hW k hk).1 hgw.size) (fun h' => (hΨ k h').2 hk) (fun h' => hΦ k h' hk)).trans (hW k hk).2
theorem range_outerAU {n : Nat} {g : Operand} {ps : Array Tmp} {assign body : Code} {Q : Exit → Act → World → Prop} {a : Act} {w : World} {gf : Nat} {lb : Array Value} (hg : a.eval g = .func (.func gf) #[] lb) (eg : ∀ args w, (callFunc gf args).run P w = .ok (.enter gf args) w)
    {encs : α → Array Value} {xs : List α} {G : FP} {w0 : World} (hit : Iter P n gf lb encs xs G w0) (hg0 : Grow w0 w) (hG : ∀ k, G k → k < w0.heap.size ∧ w.heap[k]? = w0.heap[k]?) (hps : ∀ x, (encs x).size = ps.size)
    (Ψ : FP) (hΨ : ∀ k, Ψ k → k < w.heap.size ∧ ¬ G k) (I : List α → FP → World → Prop) (Ix : Code → List α → FP → World → Prop) (hI : Stab w.heap.size I) (hIx : ∀ c, Stab w.heap.size (Ix c)) (h0 : I [] (fun _ => False) w) (up : α → Nat → Array Value → Array Value) (At : α → Nat → World → Prop) (hAt : ∀ x N W W', At x N W → W'.heap[N]? = W.heap[N]? → At x N W')
    (hassign : ∀ (l : Nat) (x : α) (W : World) (K : Act → World → Prop), (∀ W', Below W.heap.size W W' → W.heap.size < W'.heap.size → At x W.heap.size W' → K { tmps := up x W.heap.size a.tmps, defers := [] } W') → assign.wpIn (Fence.wide.inRound l) n P (Exit.then K (fun _ _ _ => False)) { tmps := (ps.zip (encs x)).foldl (fun t (p, v) => t.setIfInBounds p v) a.tmps, defers := [] } W)
    (hbody : ∀ (l : Nat) (pre : List α) (x : α) (Φ : FP) (N : Nat) (W : World), (pre ++ [x]) <+: xs → I pre Φ W → w.heap.size < l → (∀ k, Φ k → l + 1 ≤ k ∧ k < N) → (∃ r, W.heap[l]? = some (.loop r)) → l < N → N < W.heap.size → At x N W → body.wpIn (Fence.wide.inRound l) n P (bodyI Ψ Φ I Ix (pre ++ [x]) W) { tmps := up x N a.tmps, defers := [] } W)
    (hdone : ∀ (D : Nat) (Φ : FP) (W : World), I xs Φ W → Only Ψ (fun _ => False) w W → w.heap.size ≤ D → ¬ Φ D → W.heap[D]? = some (.deferred (some [])) → Q .normal { a with defers := { target := .collected D, args := #[] } :: a.defers } W)
    (hstop : ∀ (D : Nat) (Φ : FP) (c : Code) (pre : List α) (W : World), pre <+: xs → Ix c pre Φ W → Only Ψ (fun _ => False) w W → w.heap.size ≤ D → ¬ Φ D → W.heap[D]? = some (.deferred (some [])) → c.wpIn Fence.wide (n + 2) P Q { a with defers := { target := .collected D, args := #[] } :: a.defers } W) :
    (Code.rangeFunc g ps assign body).wpIn Fence.wide (n + 2) P Q a w :=
  range_outerAI hg eg hit hg0 hG hps Ψ hΨ I Ix hI hIx h0 (fun x N => { tmps := up x N a.tmps, defers := [] }) At hAt hassign hbody hdone hstop
end
end Go.Proofs.YtpkamfbjgdmmoaaGreat
end

section
namespace Go.Proofs.YtpkamfbjgdmmoaaGreat
open Go.RowKit
set_option linter.unusedVariables false
section
variable {P : Program} {ops : Array Oper} {md : Region.Mode} {w : World} {n lp : Nat}
theorem wpStill_skip {Q : Act → Prop} {a : Act} {o : Oper} {rest : List Oper} (hw : Region.wanted o (yielded ops a.tmps) = false) (h : wpStill P ops w Q rest (a.put o.dst undef)) : wpStill P ops w Q (o :: rest) a := by
  unfold wpStill
  rw [if_neg (by rw [hw]; exact Bool.false_ne_true)]
  exact h
theorem wpStill_skipF {Q : Act → Prop} {a : Act} {o : Oper} {rest : List Oper} {j : Nat} {b t : Bool} (hg : o.guard = some (j, t)) (hy : yielded ops a.tmps j = some b) (hb : b = !t) (h : wpStill P ops w Q rest (a.put o.dst undef)) : wpStill P ops w Q (o :: rest) a := by
  refine wpStill_skip ?_ h
  unfold Region.wanted
  rw [hg]
  show (yielded ops a.tmps j == some t) = false
  rw [hy, hb]
  cases t <;> rfl
theorem wpListIn_skipF {Q : Exit → Act → World → Prop} {a : Act} {o : Oper} {rest : List Oper} {j : Nat} {b t : Bool} (hg : o.guard = some (j, t)) (hy : yielded ops a.tmps j = some b) (hb : b = !t) (h : wpListIn (Fence.wide.inRound lp) n P ops Q rest (a.put o.dst undef) w) : wpListIn (Fence.wide.inRound lp) n P ops Q (o :: rest) a w := by
  have hw : Region.wanted o (yielded ops a.tmps) = false := by
    unfold Region.wanted
    rw [hg]
    show (yielded ops a.tmps j == some t) = false
    rw [hy, hb]
    cases t <;> rfl
  unfold wpListIn
  rw [if_neg (by rw [hw]; exact Bool.false_ne_true)]
  exact ⟨fun f _ => trivial, h⟩
theorem wpStill_skipS {Q : Act → Prop} {a : Act} {o : Oper} {rest : List Oper} {j : Nat} {b t : Bool} (hg : o.guard = some (j, t)) (hy : yielded ops a.tmps j = some b) (ha : a.put o.dst undef = a) (hb : b = !t) (h : wpStill P ops w Q rest a) : wpStill P ops w Q (o :: rest) a :=
  wpStill_skipF hg hy hb (by rw [ha]; exact h)
theorem wpListIn_skipS {Q : Exit → Act → World → Prop} {a : Act} {o : Oper} {rest : List Oper} {j : Nat} {b t : Bool} (hg : o.guard = some (j, t)) (hy : yielded ops a.tmps j = some b) (ha : a.put o.dst undef = a) (hb : b = !t) (h : wpListIn (Fence.wide.inRound lp) n P ops Q rest a w) : wpListIn (Fence.wide.inRound lp) n P ops Q (o :: rest) a w :=
  wpListIn_skipF hg hy hb (by rw [ha]; exact h)
theorem wpIn_of_stillR {o : Oper} (hd : ∀ c, o.op ≠ .defer c) {a : Act} {K : Act → Prop} {K' : Act → World → Prop} {Q' : Exit → Act → World → Prop} (h : ∀ a, K a → K' a w) (hh : o.still P a w K) : o.wpIn (Fence.wide.inRound lp) n P a w K' Q' := by
  unfold Oper.still at hh
  unfold Oper.wpIn
  refine ⟨fun f _ => trivial, ?_⟩
  have e : o.semAt (Fence.wide.inRound lp).round a.eval = execOp a.eval o := Oper.semAt_eq _ _ _ hd
  rw [e]
  generalize (execOp a.eval o).run P w = r at *
  cases r with
  | ok x w' =>
    cases x <;> simp only [Oper.stillUpon] at hh <;> simp only [Oper.uponIn]
    case enter f args =>
      obtain ⟨rfl, v, hc, hn⟩ := hh
      exact ⟨fun h => by simp [Fence.wide] at h, CallsIn.inRound lp ((callsIn_wide.2 hc).mono fun e w'' ⟨he, hw⟩ => by subst he; subst hw; exact h _ hn)⟩
    all_goals (obtain ⟨rfl, h2⟩ := hh; exact h _ h2)
  | halt x w' => simp only [Oper.stillUpon] at hh
theorem wpOpIn_of_stOpR (hdf : ∀ (i : Nat) (o : Oper), ops[i]? = some o → ∀ c, o.op ≠ .defer c) {i : Nat} {a : Act} {K : Act → Prop} {K' : Act → World → Prop} {Q' : Exit → Act → World → Prop} (h : ∀ a, K a → K' a w) (hh : stOp P ops w i K a) : wpOpIn (Fence.wide.inRound lp) n P ops Q' i K' a w := by
  unfold stOp at hh
  unfold wpOpIn
  split
  · rename_i ho; simp only [ho] at hh; exact h _ hh
  · rename_i o ho
    simp only [ho] at hh
    split
    · rename_i hw; simp only [hw, if_true] at hh; exact wpIn_of_stillR (hdf _ _ ho) h hh
    · rename_i hw; simp only [hw] at hh; exact ⟨fun f _ => trivial, h _ hh⟩
theorem wpAnyIn_of_headR (hdf : ∀ (i : Nat) (o : Oper), ops[i]? = some o → ∀ c, o.op ≠ .defer c) {m g : Nat} {L : Array Bool → Act → Prop} {Q' : Exit → Act → World → Prop} (hL : ∀ listed a, L listed a → wpAnyIn (Fence.wide.inRound lp) n P md ops Q' g listed a w) :
    ∀ (f : Nat) (listed : Array Bool) (a : Act), wpAnyL P md ops w m L f listed a → wpAnyIn (Fence.wide.inRound lp) n P md ops Q' (f + g) listed a w
  | 0, listed, a, h => by rw [Nat.zero_add]; exact hL _ _ h
  | f + 1, listed, a, h => by
    rw [show f + 1 + g = (f + g) + 1 by omega]
    exact ⟨fun h0 => absurd h0 h.1, fun i hi => wpOpIn_of_stOpR hdf (fun a' h' => wpAnyIn_of_headR hdf hL f _ a' h') (h.2 i hi).2⟩
theorem wpAnyIn_of_seqR {Q' : Exit → Act → World → Prop} : ∀ (l : List Oper) (k : Nat) (listed : Array Bool) (a : Act) (w : World), (∀ j, l[j]? = ops[k + j]?) →
    Region.seqB md ops l.length k listed = true → wpListIn (Fence.wide.inRound lp) n P ops Q' l a w → wpAnyIn (Fence.wide.inRound lp) n P md ops Q' l.length listed a w
  | [], _, _, _, _, _, hB, h => ⟨by simpa [Region.seqB] using hB, h⟩
  | o :: l, k, listed, a, w, hl, hB, h => by
    have h0 : ops[k]? = some o := by simpa using (hl 0).symm
    simp only [List.length_cons, Region.seqB, Bool.and_eq_true, decide_eq_true_eq] at hB
    refine ⟨fun h1 => (by rw [hB.1] at h1; cases h1), fun i hi => ?_⟩
    rw [hB.1] at hi
    have hik : i = k := by simpa using hi
    subst hik
    have hw : wpOpIn (Fence.wide.inRound lp) n P ops Q' i (wpListIn (Fence.wide.inRound lp) n P ops Q' l) a w := by unfold wpOpIn; simp only [h0]; exact h
    exact wpOpIn_mono (fun a' w' h' => wpAnyIn_of_seqR l (i + 1) _ a' w' (fun j => by have := hl (j + 1); simpa [Nat.add_assoc, Nat.add_comm 1 j] using this) hB.2 h') hw
theorem wpIn_region_still_tailR {id : Nat} {Q : Exit → Act → World → Prop} {a : Act} {w : World} {l : List Oper} (m : Nat) (hm : P.follows .mixedOrders = true) (hB : Region.lexTailB .any l.toArray m = true)
    (hdb : l.all (fun o => match o.op with | .defer _ => false | _ => true) = true)
    (h : wpStill P l.toArray { w with drawn := w.drawn + 1 } (fun a' => wpListIn (Fence.wide.inRound lp) n P l.toArray Q (l.drop m) a' { w with drawn := w.drawn + 1 }) (l.take m) a) : (Code.region id l.toArray true).wpIn (Fence.wide.inRound lp) n P Q a w := by
  simp only [Region.lexTailB, Bool.and_eq_true, decide_eq_true_eq] at hB
  obtain ⟨⟨⟨⟨hsel, hn⟩, hs⟩, hc⟩, hlex⟩ := hB
  have hn' : m < l.length := by simpa using hn
  have htl : (l.take m).length = m := by simp; omega
  have hdl : (l.drop m).length = l.toArray.size - m := by simp
  have inv0 : HeadInv .any l.toArray m (Array.replicate l.toArray.size false) :=
    ⟨by simp, fun j oj _ hl => (by rw [getD_replicate_false] at hl; cases hl), fun t _ ht => getD_in (by simpa using ht) (getD_replicate_false _ _)⟩
  have H := wpAnyL_lex (md := .any) (g := l.toArray.size - m) hsel hs hc hn (l.take m) 0 _ a (fun j hj => by
    have hj' : j < m := by rw [htl] at hj; exact hj
    simp [hj']) (by simpa using htl) inv0 (by rw [htl]; exact hlex) h
  refine wpIn_region_any hm ?_
  have hdf : ∀ (i : Nat) (o : Oper), l.toArray[i]? = some o → ∀ c, o.op ≠ .defer c := fun i o ho c hc => by
    have hm := List.all_eq_true.1 hdb o (List.mem_of_getElem? (by simpa using ho))
    rw [hc] at hm; cases hm
  have := wpAnyIn_of_headR hdf (n := n) (lp := lp) (Q' := Q) (g := l.toArray.size - m) (fun listed a' hL => by
    have := wpAnyIn_of_seqR (n := n) (md := .any) (Q' := Q) (l.drop m) m listed a' { w with drawn := w.drawn + 1 } (fun j => by simp [List.getElem?_drop]) (by rw [hdl]; exact hL.1) hL.2
    rwa [hdl] at this) _ _ _ H
  rw [htl, show m + (l.toArray.size - m) = l.toArray.size by omega] at this
  exact this
end
end Go.Proofs.YtpkamfbjgdmmoaaGreat
end

section
namespace Go.Proofs.YtpkamfbjgdmmoaaGreat
open Go.RowKit Go.Maps Go.Shelf
attribute [local go_sem] Oper.semAt_some
set_option linter.unusedVariables false
set_option linter.unusedSimpArgs false

/-- Votes in a track. -/
def tbal (P : Nat → Pl) (t : Int) (l : List (Int × Bal)) : List (Int × Bal) := l.filter (fun x => (P x.1.toNat).tr == t)
def ballots (S : Vs) (a t : Int) : List (Int × Bal) := tbal S.P t (rowOf S.V a)
theorem tbal_snoc (P : Nat → Pl) (t : Int) (l : List (Int × Bal)) (x : Int × Bal) : tbal P t (l ++ [x]) = tbal P t l ++ (if ((P x.1.toNat).tr == t) = true then [x] else []) := by
  unfold tbal
  rw [List.filter_append]
  by_cases h : ((P x.1.toNat).tr == t) = true <;> simp [h]
theorem tbal_prefix (P : Nat → Pl) (t : Int) {l m : List (Int × Bal)} (h : l <+: m) : tbal P t l <+: tbal P t m := h.filter _
theorem tbal_length (P : Nat → Pl) (t : Int) (l : List (Int × Bal)) : (tbal P t l).length ≤ l.length := List.length_filter_le _ _
/-- The polls' tracks. -/
def TrW (vb : Nat) (P : Nat → Pl) (W : World) : Prop := ∀ k, k < 12 → W.cell? ⟨vb, k * 6 + 1, none⟩ = some (.int .i64 (P k).tr)
theorem VoX.trw {vb N : Nat} {S : Vs} {F : FP} {w : World} (h : VoX vb N S F w) : TrW vb S.P w := fun k hk => (h.cells hk).2.1
theorem VoX.row {vb N : Nat} {S : Vs} {F : FP} {w : World} (h : VoX vb N S F w) (hlen : S.V.length ≤ 100000) {a : Int} (ha : (Lit.int .i64 a).wf = true) :
    ∃ gv, (∀ W, Below w.heap.size w W → W.cell? ⟨vb, 72, none⟩ = some (.pointer (some ⟨gv, 0, none⟩))) ∧ ∀ W, Below w.heap.size w W → Calls Tryz.prog 112 #[.pointer (some ⟨gv, 0, none⟩), .int .i64 a] W fun e w' => ∃ f, e = .returned f ∧ Way Tryz.prog encs_V f (rowOf S.V a) w' ∧ Below W.heap.size W w' := by
  obtain ⟨gv, gd, gw, gp, FV, FD, FW, FQ, h1, h2⟩ := h
  exact ⟨gv, fun W hb => (h1.below hb).blk.tables.1, fun W hb => grid_Row_V (h1.below hb).v hlen ha⟩
/-- What the loop within holds. -/
def BalI (Ψ Φ0 : FP) (W : World) (base yb lp : Nat) (P : Nat → Pl) (t : Int) (J : List (Int × Bal) → FP → World → Prop) (pre : List (Int × Bal)) (Φ : FP) (W' : World) : Prop :=
  ∃ Φo, J (tbal P t pre) Φo W' ∧ (∀ k, Φo k → Φ0 k ∨ base ≤ k) ∧ (∀ k, Φ k ↔ Φo k ∧ base ≤ k) ∧ Boxed W' yb 218 (.func (.yield lp) #[] #[]) ∧ Only Ψ Φ0 W W' ∧ base ≤ W'.heap.size
theorem BalI.stab {B base yb lp : Nat} {Ψ Φ0 : FP} {W : World} {P : Nat → Pl} {t : Int} {J : List (Int × Bal) → FP → World → Prop} (hJ : Stab B J) (hB : B ≤ base) (hy : yb < base) (hW : W.heap.size ≤ base) : Stab base (BalI Ψ Φ0 W base yb lp P t J) := by
  rintro pre Φ W' ⟨Φo, hj, ho, hi, hb1, hon, hs⟩
  obtain ⟨h1, h2, h3⟩ := hJ _ _ _ hj
  refine ⟨fun k hk => ⟨((hi k).1 hk).2, (h1 k ((hi k).1 hk).1).2⟩, hs, fun W'' hg hk => ⟨Φo, h3 W'' hg (fun k hk' => ?_), ho, hi, (hk yb (.inl hy)).trans hb1, ⟨hon.grow.trans hg, fun k hk' h4 h5 => (hk k (.inl (by omega))).trans (hon.block k hk' h4 h5)⟩, Nat.le_trans hs hg.size⟩⟩
  rcases hk' with h | h
  · exact hk k (.inl (by omega))
  · by_cases hb : k < base
    · exact hk k (.inl hb)
    · exact hk k (.inr ((hi k).2 ⟨h, by omega⟩))
/-- .. where it was left. -/
def BalX (Φ0 : FP) (base : Nat) (P : Nat → Pl) (t : Int) (Jx : List (Int × Bal) → FP → World → Prop) (c : Code) (pre : List (Int × Bal)) (Φ : FP) (W' : World) : Prop :=
  c = .ret ∧ ∃ Φo, Jx (tbal P t pre) Φo W' ∧ (∀ k, Φo k → Φ0 k ∨ base ≤ k) ∧ (∀ k, Φ k ↔ Φo k ∧ base ≤ k) ∧ base ≤ W'.heap.size
theorem BalX.stab {B base : Nat} {Φ0 : FP} {P : Nat → Pl} {t : Int} {J : List (Int × Bal) → FP → World → Prop} (hJ : Stab B J) (hB : B ≤ base) (c : Code) : Stab base (BalX Φ0 base P t J c) := by
  rintro pre Φ W' ⟨hcc, Φo, hj, ho, hi, hs⟩
  obtain ⟨h1, h2, h3⟩ := hJ _ _ _ hj
  refine ⟨fun k hk => ⟨((hi k).1 hk).2, (h1 k ((hi k).1 hk).1).2⟩, hs, fun W'' hg hk => ⟨hcc, Φo, h3 W'' hg (fun k hk' => ?_), ho, hi, Nat.le_trans hs hg.size⟩⟩
  rcases hk' with h | h
  · exact hk k (.inl (by omega))
  · by_cases hb : k < base
    · exact hk k (.inl hb)
    · exact hk k (.inr ((hi k).2 ⟨h, by omega⟩))
def balVal (x : Int × Bal) : Value := .agg #[.int .i64 x.2.k, .bool x.2.aye, .int .i64 x.2.l, .int .i64 x.2.a, .int .i64 x.2.n, .int .i64 x.2.s]

set_option maxHeartbeats 8000000 in
set_option maxRecDepth 100000 in
theorem ballots_iter (m : Nat) (bv ba bt vb N : Nat) (S : Vs) (F : FP) (who t : Int) (w : World) (hv : w.cell? ⟨bv, 0, none⟩ = some (.pointer (some ⟨vb, 0, none⟩))) (ha : w.cell? ⟨ba, 0, none⟩ = some (.int .i64 who)) (ht : w.cell? ⟨bt, 0, none⟩ = some (.int .i64 t))
    (h : VoX vb N S F w) (hlen : S.V.length ≤ 100000) (hwf : (Lit.int .i64 who).wf = true) (hrf : ∀ x ∈ rowOf S.V who, 0 ≤ x.1 ∧ x.1 < 12) (G0 : FP) (hG0 : ∀ k, F k → G0 k) :
    IterT Tryz.prog (m + 1) 111 #[.pointer (some ⟨bv, 0, none⟩), .pointer (some ⟨ba, 0, none⟩), .pointer (some ⟨bt, 0, none⟩)] encs_V (ballots S who t) (fun k => k = bv ∨ k = ba ∨ k = bt) G0 (TrW vb S.P) w := by
  intro lp B Ψ J Jx Φ0 W hgw hG hΨ hΦ0 hJ hJx hTr hround h0
  have hX : VoX vb N S F W := h.keep hgw (fun k hk => (hG k (.inr (hG0 k hk))).2)
  have cv : W.cell? ⟨bv, 0, none⟩ = some (.pointer (some ⟨vb, 0, none⟩)) := (World.cell?_of_block (hG bv (.inl (.inl rfl))).2).trans hv
  have ca : W.cell? ⟨ba, 0, none⟩ = some (.int .i64 who) := (World.cell?_of_block (hG ba (.inl (.inr (.inl rfl)))).2).trans ha
  have ct : W.cell? ⟨bt, 0, none⟩ = some (.int .i64 t) := (World.cell?_of_block (hG bt (.inl (.inr (.inr rfl)))).2).trans ht
  have lv : bv < W.heap.size := by have := (hG bv (.inl (.inl rfl))).1; have := hgw.size; omega
  have la : ba < W.heap.size := by have := (hG ba (.inl (.inr (.inl rfl)))).1; have := hgw.size; omega
  have lt : bt < W.heap.size := by have := (hG bt (.inl (.inr (.inr rfl)))).1; have := hgw.size; omega
  obtain ⟨W1, hW1⟩ : ∃ W1, W1 = W.alloc (.cells #[.func (.yield lp) #[] #[]] 218) := ⟨_, rfl⟩
  have hB1 : Below W.heap.size W W1 := by rw [hW1]; exact (Below.refl _ W).alloc (Nat.le_refl _) _
  have hs1' : W1.heap.size = W.heap.size + 1 := by rw [hW1]; simp
  have hby : Boxed W1 W.heap.size 218 (.func (.yield lp) #[] #[]) := by rw [hW1]; exact Boxed.new W _ _
  obtain ⟨gv, hgv, hrow⟩ := hX.row hlen hwf
  obtain ⟨hs1, hs2, hs3⟩ := hJ _ _ _ h0
  have mixed : Tryz.prog.follows .mixedOrders = true := by kernel_rfl
  have cv1 : W1.cell? ⟨bv, 0, none⟩ = some (.pointer (some ⟨vb, 0, none⟩)) := (World.cell?_of_block (hB1.block bv lv)).trans cv
  have ca1 : W1.cell? ⟨ba, 0, none⟩ = some (.int .i64 who) := (World.cell?_of_block (hB1.block ba la)).trans ca
  have cvd : W1.drew.cell? ⟨bv, 0, none⟩ = some (.pointer (some ⟨vb, 0, none⟩)) := cv1
  have cad : W1.drew.cell? ⟨ba, 0, none⟩ = some (.int .i64 who) := ca1
  have hgd := hgv W1.drew hB1.drew
  have hrowd := hrow W1.drew hB1.drew
  refine callsIn_of_wp_marks Tryz.func111 rfl trivial ?_ rfl
  simp only [Tryz.ntmps111, List.size_toArray, List.length_cons, List.length_nil, Nat.reduceAdd, Nat.reduceSub, Array.replicate_succ, Array.replicate_zero, List.push_toArray, List.append_toArray, List.nil_append, List.cons_append]
  have HW := Lib.hid (And.intro hB1 (And.intro hby hs1'))
  have HW1 := Lib.hid hW1
  have HROW := Lib.hid hrowd
  have HRD := Lib.hid hround
  have HJ := Lib.hid (And.intro hJ hJx)
  have HP := Lib.hid hΨ
  have HP0 := Lib.hid hΦ0
  have HT := Lib.hid hTr
  have HH0 := Lib.hid h0
  have HS3 := Lib.hid hs3
  have HS1 := Lib.hid hs1
  have HC := Lib.hid (And.intro cv (And.intro ct (And.intro lv (And.intro la lt))))
  have HRF := Lib.hid hrf
  clear hB1 hby hs1' hX hrow hrowd hround hJ hJx hG hΨ hΦ0 h0 hs1 hs3 h hlen hv ha ht hTr hG0 hrf cv ca ct hwf hgv
  rw [hW1] at cv1
  gi_upto_region 2 with fail
  rw [← HW1.out]
  clear hW1 cv1 ca1
  refine wpIn_region_still_tail 5 mixed (by kernel_rfl) ?_
  simp only [List.take_succ_cons, List.take_zero, List.drop_succ_cons, List.drop_zero]
  change wpStill _ _ W1.drew _ _ _
  repeat still_step
  refine wpStill_nil ?_
  change wpListIn _ _ _ _ _ _ _ W1.drew
  gi_wp2_with (first
    | (gi_at_call 112; refine (callsIn_wide.2 HROW.out).mono ?_; rintro e w2 ⟨f, rfl, hway, hb⟩; obtain ⟨gf, lb, rfl, hit⟩ := hway; have H2 := Lib.hid (And.intro hit hb); clear hit hb)
    | (refine ⟨trivial, ?_⟩; gi_at_call 112; refine (callsIn_wide.2 HROW.out).mono ?_; rintro e w2 ⟨f, rfl, hway, hb⟩; obtain ⟨gf, lb, rfl, hit⟩ := hway; have H2 := Lib.hid (And.intro hit hb); clear hit hb)
    | fail)
  obtain ⟨hB1, hby, hs1'⟩ := HW.out
  obtain ⟨hit, hb2⟩ := H2.out
  obtain ⟨cv, ct, lv', la', lt'⟩ := HC.out
  have hb2' : Below W1.heap.size W1 w2 := ((Below.refl _ W1).drew).trans (show Below W1.heap.size W1.drew w2 from hb2)
  have hs2' : W1.heap.size ≤ w2.heap.size := hb2'.size
  have hbW : Below W.heap.size W w2 := hB1.trans (hb2'.mono hB1.size)
  have hyb2 : Boxed w2 W.heap.size 218 (.func (.yield lp) #[] #[]) := (hb2'.block _ (by omega)).trans hby
  have hJ2 : J [] Φ0 w2 := HS3.out w2 (Grow.of_below hbW) (fun k hk => hbW.block k (hk.elim (fun h => by omega) (fun h => (HS1.out k h).2)))
  have hOW : Only Ψ Φ0 W w2 := Only.of_later hbW
  have HF := Lib.hid (And.intro hJ2 (And.intro hOW (And.intro hyb2 hbW)))
  have hsz2 : W.heap.size + 1 ≤ w2.heap.size := by omega
  clear hB1 hby hb2 hb2' hbW hyb2 hJ2 hOW cv ct lv' la' lt' cvd cad hgd
  refine range_outerA (n := m) (gf := gf) (lb := lb) rfl hit.1 (hit.2 m) (Grow.refl w2) (fun k hk => ⟨hk, rfl⟩) (fun _ => rfl)
    (fun k => Ψ k ∨ Φ0 k) ?hpsi (BalI Ψ Φ0 W w2.heap.size W.heap.size lp S.P t J) (BalX Φ0 w2.heap.size S.P t Jx) (BalI.stab HJ.out.1 (by omega) (by omega) (by omega)) (fun c => BalX.stab HJ.out.2 (by omega) c)
    ?h0 (fun x N => { tmps := #[.func (.yield lp) #[] #[], .pointer (some ⟨bv, 0, none⟩), .pointer (some ⟨ba, 0, none⟩), .pointer (some ⟨bt, 0, none⟩), .pointer (some ⟨W.heap.size, 0, none⟩), .int .i64 x.1, .pointer (some ⟨N, 0, none⟩), .pointer (some ⟨vb, 0, none⟩), .bool false, .pointer (some ⟨vb, 0, none⟩), .pointer (some ⟨vb, 0, none⟩), .pointer (some ⟨vb, 72, none⟩), .pointer (some ⟨gv, 0, none⟩), .int .i64 who, .func (.func gf) #[] lb, .int .i64 x.1, balVal x, undef, undef, undef, undef, undef, undef, undef, undef, undef, undef, undef, undef, undef, undef, undef, undef], defers := [] })
    (fun x N W => W.heap[N]? = some (.cells #[.int .i64 x.2.k, .bool x.2.aye, .int .i64 x.2.l, .int .i64 x.2.a, .int .i64 x.2.n, .int .i64 x.2.s] 47 (0, 0))) (fun x N W W' h e => e.trans h) ?assign ?body ?done ?stop
  case hpsi =>
    intro k hk
    rcases hk with h | h
    · have := (HP.out k h).1; omega
    · have := (HS1.out k h).2; omega
  case h0 => exact ⟨Φ0, HF.out.1, fun k h => .inl h, fun k => ⟨fun h => h.elim, fun h => by have := (HS1.out k h.1).2; omega⟩, HF.out.2.2.1, HF.out.2.1, Nat.le_refl _⟩
  case assign =>
    intro l x W K hK
    simp only [encs_V]
    gi_wp2
    exact hK _ ((Below.refl _ W).alloc (Nat.le_refl _) _) (by simp) (World.alloc_heap_new _ _)
  case body =>
    rintro l pre x Φi N W' hpx ⟨Φo, hj, ho, hi, hbY, hon, hsz⟩ hl hΦl ⟨r, hr⟩ hlN hNW hAt
    have hxm : x ∈ rowOf S.V who := hpx.subset (by simp)
    obtain ⟨x0, x1⟩ := HRF.out x hxm
    obtain ⟨rf, hrf⟩ : ∃ rf : Nat, x.1 = rf := ⟨x.1.toNat, by omega⟩
    have hrl : rf < 12 := by omega
    have hrlI : (rf : Int) < 12 := by omega
    have htw := HT.out _ _ _ hj hon rf hrl
    obtain ⟨cv, ct, lv', la', lt'⟩ := HC.out
    have hgk : ∀ k, (k = bv ∨ k = ba ∨ k = bt) → k < W.heap.size → W'.heap[k]? = W.heap[k]? := fun k hk hkl => hon.block k hkl (fun h => (HP.out k h).2 hk) (fun h => HP0.out k h hk)
    have cv' : W'.cell? ⟨bv, 0, none⟩ = some (.pointer (some ⟨vb, 0, none⟩)) := (World.cell?_of_block (hgk bv (.inl rfl) lv')).trans cv
    have ct' : W'.cell? ⟨bt, 0, none⟩ = some (.int .i64 t) := (World.cell?_of_block (hgk bt (.inr (.inr rfl)) lt')).trans ct
    have cvd : W'.drew.cell? ⟨bv, 0, none⟩ = some (.pointer (some ⟨vb, 0, none⟩)) := cv'
    have ctd : W'.drew.cell? ⟨bt, 0, none⟩ = some (.int .i64 t) := ct'
    have htd : W'.drew.cell? ⟨vb, rf * 6 + 1, none⟩ = some (.int .i64 (S.P rf).tr) := htw
    have hyd : W'.drew.cell? ⟨W.heap.size, 0, none⟩ = some (.func (.yield lp) #[] #[]) := hbY.cell
    have hN0 : W'.drew.cell? ⟨N, 0, none⟩ = some (.int .i64 x.2.k) := by rw [World.cell?, show W'.drew.heap[N]? = _ from hAt]; rfl
    have hN1 : W'.drew.cell? ⟨N, 1, none⟩ = some (.bool x.2.aye) := by rw [World.cell?, show W'.drew.heap[N]? = _ from hAt]; rfl
    have hN2 : W'.drew.cell? ⟨N, 2, none⟩ = some (.int .i64 x.2.l) := by rw [World.cell?, show W'.drew.heap[N]? = _ from hAt]; rfl
    have hN3 : W'.drew.cell? ⟨N, 3, none⟩ = some (.int .i64 x.2.a) := by rw [World.cell?, show W'.drew.heap[N]? = _ from hAt]; rfl
    have hN4 : W'.drew.cell? ⟨N, 4, none⟩ = some (.int .i64 x.2.n) := by rw [World.cell?, show W'.drew.heap[N]? = _ from hAt]; rfl
    have hN5 : W'.drew.cell? ⟨N, 5, none⟩ = some (.int .i64 x.2.s) := by rw [World.cell?, show W'.drew.heap[N]? = _ from hAt]; rfl
    obtain ⟨tk, htk⟩ : ∃ tk, tk = (S.P rf).tr := ⟨_, rfl⟩
    rw [← htk] at htd
    have hsn := tbal_snoc S.P t pre x
    rw [hrf, Int.toNat_natCast, ← htk] at hsn
    have hpf := tbal_prefix S.P t hpx
    obtain ⟨q1, q2, q3⟩ := HJ.out.1 _ _ _ hj
    have hjd : J (tbal S.P t pre) Φo W'.drew := q3 W'.drew ⟨rfl, rfl, rfl, Nat.le_refl _⟩ (fun _ _ => rfl)
    have hond : Only Ψ Φ0 W W'.drew := hon.trans (Only.of_later (Φ := Φo) (Below.refl _ W').drew) (fun k hk => (ho k hk).imp id (fun h => by omega))
    have HBY := Lib.hid hbY
    have HHO := Lib.hid ho
    have HHI := Lib.hid hi
    have HON := Lib.hid hond
    have HJD := Lib.hid hjd
    have HQ1 := Lib.hid q1
    have HPF := Lib.hid hpf
    clear hj ho hi hbY hon hxm htw cv ct lv' la' lt' hgk cv' ct' hpx hpf q1 q3 hjd hond hit x0 x1 hAt
    unfold balVal
    rw [hrf]
    cases hq : (tk == t) with
    | true =>
      rw [hq, if_pos rfl] at hsn
      have hpre : tbal S.P t pre ++ [x] <+: ballots S who t := by rw [← hsn]; exact HPF.out
      obtain ⟨fn, tm, asg, bd, hyy, hR⟩ := HRD.out _ x Φo W'.drew hpre HJD.out
      simp only [encs_V, hrf] at hyy
      have HSN := Lib.hid hsn
      have HRR := Lib.hid hR
      clear hpre hR hsn htk
      gi_upto_region 5 with fail
      refine wpIn_region_still_tailR 13 mixed (by kernel_rfl) (by kernel_rfl) ?_
      simp only [List.take_succ_cons, List.take_zero, List.drop_succ_cons, List.drop_zero]
      change wpStill _ _ W'.drew _ _ _
      repeat still_step
      refine wpStill_nil ?_
      change wpListIn _ _ _ _ _ _ _ W'.drew
      gi_wp2
      refine ⟨fun h => by simp [Fence.wide] at h, (RoundIn.inAny HRR.out).mono ?_⟩
      rintro e W3 ⟨Φo', hn, hon', (⟨rfl, hJ'⟩ | ⟨rfl, hJ'⟩)⟩
      · have hno : ∀ k, Φo' k → Φ0 k ∨ w2.heap.size ≤ k := fun k hk => (hn k hk).elim (HHO.out k) (fun h => .inr (by have : W'.heap.size ≤ k := h; omega))
        have hz3 : W'.heap.size ≤ W3.heap.size := hon'.grow.size
        have hyn : ¬ Ψ W.heap.size ∧ ¬ Φo W.heap.size := ⟨fun h => by have := (HP.out _ h).1; omega, fun h => (HHO.out _ h).elim (fun h => by have := (HS1.out _ h).2; omega) (fun h => by omega)⟩
        have hbY3 : Boxed W3 W.heap.size 218 (.func (.yield lp) #[] #[]) := (hon'.block _ (by show W.heap.size < W'.heap.size; omega) hyn.1 hyn.2).trans HBY.out
        gi_wp2
        refine ⟨fun k => Φo' k ∧ w2.heap.size ≤ k, fun k hk => (hn k hk.1).elim (fun h => .inl ((HHI.out k).2 ⟨h, hk.2⟩)) .inr, Only.undrew ⟨hon'.grow, fun k hk h1 h2 => ?_⟩, Φo', by rw [HSN.out]; exact hJ', hno, fun k => Iff.rfl, hbY3, HON.out.trans hon' (fun k hk => (HHO.out k hk).imp id (fun h => by omega)), by omega⟩
        refine hon'.block k hk (fun h => h1 (.inl h)) (fun h => ?_)
        rcases HHO.out k h with h' | h'
        · exact h1 (.inr h')
        · exact h2 ((HHI.out k).2 ⟨h, h'⟩)
      · have hno : ∀ k, Φo' k → Φ0 k ∨ w2.heap.size ≤ k := fun k hk => (hn k hk).elim (HHO.out k) (fun h => .inr (by have : W'.heap.size ≤ k := h; omega))
        have hz3 : W'.heap.size ≤ W3.heap.size := hon'.grow.size
        gi_wp2
        refine ⟨fun k => Φo' k ∧ w2.heap.size ≤ k, fun k hk => (hn k hk.1).elim (fun h => .inl ((HHI.out k).2 ⟨h, hk.2⟩)) .inr, Only.undrew ⟨hon'.grow, fun k hk h1 h2 => ?_⟩, rfl, Φo', by rw [HSN.out]; exact hJ', hno, fun k => Iff.rfl, by omega⟩
        refine hon'.block k hk (fun h => h1 (.inl h)) (fun h => ?_)
        rcases HHO.out k h with h' | h'
        · exact h1 (.inr h')
        · exact h2 ((HHI.out k).2 ⟨h, h'⟩)
    | false =>
      rw [hq, if_neg (by decide), List.append_nil] at hsn
      obtain ⟨q, hqq⟩ : ∃ q, q = false := ⟨_, rfl⟩
      rw [← hqq] at hq
      have HQ := Lib.hid hqq
      have HSN := Lib.hid hsn
      clear hsn htk hqq
      gi_upto_region 5 with fail
      refine wpIn_region_still_tailR 13 mixed (by kernel_rfl) (by kernel_rfl) ?_
      simp only [List.take_succ_cons, List.take_zero, List.drop_succ_cons, List.drop_zero]
      change wpStill _ _ W'.drew _ _ _
      iterate 10 still_step
      refine wpStill_skipS (j := 9) (b := q) (t := true) ?_ ?_ ?_ HQ.out ?_
      rfl
      rfl
      kernel_rfl
      refine wpStill_skipS (j := 9) (b := q) (t := true) ?_ ?_ ?_ HQ.out ?_
      rfl
      rfl
      kernel_rfl
      refine wpStill_skipS (j := 9) (b := q) (t := true) ?_ ?_ ?_ HQ.out ?_
      rfl
      rfl
      kernel_rfl
      refine wpStill_nil ?_
      change wpListIn _ _ _ _ _ _ _ W'.drew
      refine wpListIn_skipS (j := 9) (b := q) (t := true) ?_ ?_ ?_ HQ.out ?_
      rfl
      rfl
      kernel_rfl
      refine wpListIn_skipS (j := 9) (b := q) (t := true) ?_ ?_ ?_ HQ.out ?_
      rfl
      rfl
      kernel_rfl
      have hqq := HQ.out
      subst hqq
      gi_wp2
      refine ⟨Φi, fun k hk => .inl hk, Only.of_later (Below.refl _ W').drew, Φo, by rw [HSN.out]; exact HJD.out, HHO.out, HHI.out, HBY.out, HON.out, hsz⟩
  case done =>
    rintro D Φi W3 ⟨Φo, hj, ho, hi, hbY, hon, hsz⟩ hon2 hD hnD hK
    have hnDo : ¬ Φo D := fun h => hnD ((hi D).2 ⟨h, hD⟩)
    have HD := Lib.hid (And.intro hj (And.intro ho (And.intro hon (And.intro hK hnDo))))
    clear hj ho hi hbY hon hon2 hK hnD hit
    gi_wp2
    obtain ⟨hj, ho, hon, hK, hnDo⟩ := HD.out
    refine marks_leave [D] W3 (by simp) (fun d hd => ?_) (fun w' hg hk => ⟨_, results_none rfl _ _ _, ⟨_, rfl⟩, ?_⟩)
    · simp only [List.mem_cons, List.not_mem_nil, or_false] at hd
      subst hd; exact hK
    · refine ⟨Φo, fun j hj => (ho j hj).imp id (fun h => by omega), ⟨hon.grow.trans hg, fun k hk' h1 h2 => (hk k (by simp; omega)).trans (hon.block k hk' h1 h2)⟩, .inl ((HJ.out.1 _ _ _ hj).2.2 w' hg (fun k hk' => hk k ?_))⟩
      simp only [List.mem_cons, List.not_mem_nil, or_false]
      rintro rfl
      rcases hk' with h | h
      · omega
      · exact hnDo h
  case stop =>
    rintro D Φi c pre W3 hpre ⟨rfl, Φo, hj, ho, hi, hsz⟩ hon2 hD hnD hK
    have hnDo : ¬ Φo D := fun h => hnD ((hi D).2 ⟨h, hD⟩)
    have hon : Only Ψ Φ0 W W3 := HF.out.2.1.trans (Φ' := Φ0) ⟨hon2.grow, fun k hk h1 h2 => hon2.block k hk (fun h => h.elim h1 h2) (fun h => h)⟩ (fun k hk => .inl hk)
    have HD := Lib.hid (And.intro hj (And.intro ho (And.intro hon (And.intro hK (And.intro hnDo (tbal_prefix S.P t hpre))))))
    clear hj ho hi hon hon2 hK hnD hit
    gi_wp2
    obtain ⟨hj, ho, hon, hK, hnDo, hpf⟩ := HD.out
    refine marks_leave [D] W3 (by simp) (fun d hd => ?_) (fun w' hg hk => ⟨_, results_none rfl _ _ _, ⟨_, rfl⟩, ?_⟩)
    · simp only [List.mem_cons, List.not_mem_nil, or_false] at hd
      subst hd; exact hK
    · refine ⟨Φo, fun j hj => (ho j hj).imp id (fun h => by omega), ⟨hon.grow.trans hg, fun k hk' h1 h2 => (hk k (by simp; omega)).trans (hon.block k hk' h1 h2)⟩, .inr ⟨_, hpf, (HJ.out.2 _ _ _ hj).2.2 w' hg (fun k hk' => hk k ?_)⟩⟩
      simp only [List.mem_cons, List.not_mem_nil, or_false]
      rintro rfl
      rcases hk' with h | h
      · omega
      · exact hnDo h
end Go.Proofs.YtpkamfbjgdmmoaaGreat
end

section
namespace Go.Proofs.YtpkamfbjgdmmoaaGreat
open Go.RowKit Go.Maps Go.Shelf
attribute [local go_sem] Oper.semAt_some
set_option linter.unusedVariables false
set_option linter.unusedSimpArgs false

section
variable {P : Program} {α : Type}
/-- A range that is never left, whatever stands in the frame. -/
theorem range_outerWI {n : Nat} {g : Operand} {ps : Array Tmp} {assign body : Code} {Q : Exit → Act → World → Prop} {a : Act} {w : World} {gf : Nat} {lb : Array Value} (hg : a.eval g = .func (.func gf) #[] lb) (eg : ∀ args w, (callFunc gf args).run P w = .ok (.enter gf args) w)
    {encs : α → Array Value} {xs : List α} {G : FP} {w0 : World} (hit : Iter P n gf lb encs xs G w0) (hg0 : Grow w0 w) (hG : ∀ k, G k → k < w0.heap.size ∧ w.heap[k]? = w0.heap[k]?) (hps : ∀ x, (encs x).size = ps.size)
    (Ψ : FP) (hΨ : ∀ k, Ψ k → k < w.heap.size ∧ ¬ G k) (I : List α → FP → World → Prop) (hI : Stab w.heap.size I) (h0 : I [] (fun _ => False) w) (up : α → Array Value → Array Value)
    (hassign : ∀ (l : Nat) (x : α) (W : World) (K : Act → World → Prop), K { tmps := up x a.tmps, defers := [] } W → assign.wpIn (Fence.wide.inRound l) n P (Exit.then K (fun _ _ _ => False)) { tmps := (ps.zip (encs x)).foldl (fun t (p, v) => t.setIfInBounds p v) a.tmps, defers := [] } W)
    (hbody : ∀ (l : Nat) (pre : List α) (x : α) (Φ : FP) (W : World), (pre ++ [x]) <+: xs → I pre Φ W → w.heap.size < l → (∀ k, Φ k → l + 1 ≤ k) → (∃ r, W.heap[l]? = some (.loop r)) → body.wpIn (Fence.wide.inRound l) n P (bodyI Ψ Φ I (fun _ _ _ _ => False) (pre ++ [x]) W) { tmps := up x a.tmps, defers := [] } W)
    (hdone : ∀ (D : Nat) (Φ : FP) (W : World), I xs Φ W → Only Ψ (fun _ => False) w W → w.heap.size ≤ D → ¬ Φ D → W.heap[D]? = some (.deferred (some [])) → Q .normal { a with defers := { target := .collected D, args := #[] } :: a.defers } W) :
    (Code.rangeFunc g ps assign body).wpIn Fence.wide (n + 2) P Q a w :=
  range_outer hg eg hit hg0 hG hps Ψ hΨ I (fun _ _ _ _ => False) hI (fun c _ _ _ h => h.elim) h0 (fun x => { tmps := up x a.tmps, defers := [] }) hassign hbody hdone (fun D Φ c pre W _ h => h.elim)
end
theorem enters_ballots1 : ∀ args w, (callFunc 111 args).run Tryz.prog w = .ok (.enter 111 args) w := enters_of Tryz.func111 (by kernel_rfl) rfl
theorem voting_ballots (p : Option Addr) (a t : Int) (w : World) : Calls Tryz.prog 86 #[.pointer p, .int .i64 a, .int .i64 t] w fun e w' => e = .returned (.func (.func 111) #[] #[.pointer (some ⟨w.heap.size, 0, none⟩), .pointer (some ⟨w.heap.size + 1, 0, none⟩), .pointer (some ⟨w.heap.size + 1 + 1, 0, none⟩)]) ∧ w' = ((w.alloc (.cells #[.pointer p] 34)).alloc (.cells #[.int .i64 a] 3)).alloc (.cells #[.int .i64 t] 3) := by
  go_enter Tryz.func86, Tryz.ntmps86
  go_wp2
  go_ret
  exact ⟨rfl, rfl⟩
/-- What ballots gives: a way that reads the polls' tracks as it goes. -/
def BalWay (vb : Nat) (S : Vs) (F : FP) (a t : Int) (w : World) (e : Ending) (w' : World) : Prop :=
  e = .returned (.func (.func 111) #[] #[.pointer (some ⟨w.heap.size, 0, none⟩), .pointer (some ⟨w.heap.size + 1, 0, none⟩), .pointer (some ⟨w.heap.size + 1 + 1, 0, none⟩)]) ∧ Below w.heap.size w w' ∧ w'.heap.size = w.heap.size + 3 ∧
    (∀ m, IterT Tryz.prog (m + 1) 111 #[.pointer (some ⟨w.heap.size, 0, none⟩), .pointer (some ⟨w.heap.size + 1, 0, none⟩), .pointer (some ⟨w.heap.size + 1 + 1, 0, none⟩)] encs_V (ballots S a t) (fun k => k = w.heap.size ∨ k = w.heap.size + 1 ∨ k = w.heap.size + 1 + 1) F (TrW vb S.P) w') ∧
    (∀ m, Iter Tryz.prog (m + 1) 111 #[.pointer (some ⟨w.heap.size, 0, none⟩), .pointer (some ⟨w.heap.size + 1, 0, none⟩), .pointer (some ⟨w.heap.size + 1 + 1, 0, none⟩)] encs_V (ballots S a t) (fun k => F k ∨ k = w.heap.size ∨ k = w.heap.size + 1 ∨ k = w.heap.size + 1 + 1) w')
theorem VoX.balWay {vb N : Nat} {S : Vs} {F : FP} {w : World} (h : VoX vb N S F w) (hlen : S.V.length ≤ 100000) {a : Int} (ha : (Lit.int .i64 a).wf = true) (hrf : ∀ x ∈ rowOf S.V a, 0 ≤ x.1 ∧ x.1 < 12) (t : Int) :
    Calls Tryz.prog 86 #[.pointer (some ⟨vb, 0, none⟩), .int .i64 a, .int .i64 t] w (BalWay vb S F a t w) := by
  refine (voting_ballots _ a t w).mono ?_
  rintro e w' ⟨he, hw'⟩
  have hB : Below w.heap.size w w' := by rw [hw']; exact (((Below.refl _ w).alloc (Nat.le_refl _) _).alloc (by simp) _).alloc (by simp; omega) _
  have hsz : w'.heap.size = w.heap.size + 3 := by rw [hw']; simp
  have b0 : Boxed w' w.heap.size 34 (.pointer (some ⟨vb, 0, none⟩)) := by rw [hw']; exact ((Boxed.new w _ _).alloc _).alloc _
  have b1 : Boxed w' (w.heap.size + 1) 3 (.int .i64 a) := by
    have := Boxed.new (w.alloc (.cells #[.pointer (some ⟨vb, 0, none⟩)] 34)) 3 (.int .i64 a)
    rw [World.size_alloc] at this
    rw [hw']; exact this.alloc _
  have b2 : Boxed w' (w.heap.size + 1 + 1) 3 (.int .i64 t) := by
    have := Boxed.new ((w.alloc (.cells #[.pointer (some ⟨vb, 0, none⟩)] 34)).alloc (.cells #[.int .i64 a] 3)) 3 (.int .i64 t)
    rw [World.size_alloc, World.size_alloc] at this
    rw [hw']; exact this
  have hX := h.below hB
  have hit := fun m => ballots_iter m w.heap.size (w.heap.size + 1) (w.heap.size + 1 + 1) vb N S F a t w' b0.cell b1.cell b2.cell hX hlen ha hrf F (fun k hk => hk)
  exact ⟨he, hB, hsz, hit, fun m => (hit m).iter (fun k hk => hk.elim .inr .inl) (fun W hW k hk => (World.cell?_of_block (hW vb (.inl hX.own)).2).trans (hX.trw k hk))⟩
/-- What count's range holds. -/
def CntJ (N0 nb : Nat) (pre : List (Int × Bal)) (Φ : FP) (W : World) : Prop := (∀ k, ¬ Φ k) ∧ Boxed W nb 3 (.int .i64 (pre.length : Int)) ∧ N0 ≤ W.heap.size
theorem CntJ.stab {N0 gb : Nat} (h1 : gb < N0) : Stab N0 (CntJ N0 gb) := by
  rintro pre Φ W ⟨h0, h, hs⟩
  exact ⟨fun k hk => (h0 k hk).elim, hs, fun W' hg hk => ⟨h0, (hk gb (.inl h1)).trans h, Nat.le_trans hs hg.size⟩⟩
set_option maxHeartbeats 4000000 in
set_option maxRecDepth 100000 in
theorem VoX.count {vb N : Nat} {S : Vs} {F : FP} {w : World} (h : VoX vb N S F w) (hlen : S.V.length ≤ 100000) {a : Int} (ha : (Lit.int .i64 a).wf = true) (hrf : ∀ x ∈ rowOf S.V a, 0 ≤ x.1 ∧ x.1 < 12) (t : Int) :
    Calls Tryz.prog 49 #[.pointer (some ⟨vb, 0, none⟩), .int .i64 a, .int .i64 t] w fun e w' => e = .returned (.int .i64 ((ballots S a t).length : Int)) ∧ Below w.heap.size w w' := by
  have hll : (ballots S a t).length ≤ 100000 := Nat.le_trans (tbal_length _ _ _) (Nat.le_trans (row_length _ _) hlen)
  obtain ⟨w1, hw1⟩ : ∃ w1, w1 = w.alloc (.cells #[.int .i64 0] 3) := ⟨_, rfl⟩
  have hb1 : Below w.heap.size w w1 := by rw [hw1]; exact (Below.refl _ w).alloc (Nat.le_refl _) _
  have x0 : Boxed w1 w.heap.size 3 (.int .i64 0) := by rw [hw1]; exact Boxed.new w _ _
  have hs1 : w1.heap.size = w.heap.size + 1 := by rw [hw1]; simp
  have hbal := (h.below hb1).balWay hlen ha hrf t
  refine (callsIn_wide (n := 3)).1 ?_
  refine callsIn_of_wp_marks Tryz.func49 rfl trivial ?_ rfl
  simp only [Tryz.ntmps49, List.size_toArray, List.length_cons, List.length_nil, Nat.reduceAdd, Nat.reduceSub, Array.replicate_succ, Array.replicate_zero, List.push_toArray, List.append_toArray, List.nil_append, List.cons_append]
  obtain ⟨xs, hxs⟩ : ∃ xs, xs = ballots S a t := ⟨_, rfl⟩
  unfold BalWay at hbal
  rw [← hxs] at hbal hll ⊢
  have HW1 := Lib.hid hw1
  have H1 := Lib.hid (And.intro hb1 (And.intro x0 hs1))
  have HB := Lib.hid hbal
  have HL := Lib.hid hll
  have HFL := Lib.hid (show ∀ k, F k → k < w.heap.size from fun k hk => h.lt hk)
  clear hw1 hb1 x0 hs1 hbal h hlen ha hrf hll hxs
  gi_wp2_with (first
    | (refine ⟨trivial, ?_⟩; gi_at_call 86; rw [← HW1.out]; refine (callsIn_wide.2 HB.out).mono ?_; rintro e w2 ⟨rfl, hb, hs2, -, hit⟩; have H2 := Lib.hid (And.intro hit (And.intro hb hs2)); clear hit hb hs2)
    | fail)
  obtain ⟨gb, hgb⟩ : ∃ gb, gb = w.heap.size := ⟨_, rfl⟩
  obtain ⟨hb1, x0, hs1⟩ := H1.out
  rw [← hgb] at x0 hs1 ⊢
  obtain ⟨hit, hb2, hs2⟩ := H2.out
  have x2 : Boxed w2 gb 3 (.int .i64 (([] : List (Int × Bal)).length : Int)) := (hb2.block gb (by omega)).trans x0
  have hgl : gb < w2.heap.size := by omega
  have hFl := HFL.out
  have hGl : ∀ k, (F k ∨ k = w1.heap.size ∨ k = w1.heap.size + 1 ∨ k = w1.heap.size + 1 + 1) → k < w2.heap.size ∧ k ≠ gb := fun k hk => by
    rcases hk with h | h
    · have := hFl k h; omega
    · omega
  have HGB := Lib.hid hgb
  clear hgb hFl
  refine range_outerWI (n := 1) (gf := 111) rfl enters_ballots1 (hit 0) (Grow.refl w2) (fun k hk => ⟨(hGl k hk).1, rfl⟩) (fun _ => rfl)
    (fun k => k = gb) (by rintro k rfl; exact ⟨hgl, fun h => (hGl _ h).2 rfl⟩) (CntJ w2.heap.size gb) (CntJ.stab hgl) ⟨fun _ h => h, x2, Nat.le_refl _⟩
    (fun x T => (T.setIfInBounds 12 (.int .i64 x.1)).setIfInBounds 13 (balVal x)) ?assign ?body ?done
  case assign =>
    intro l x W K hK
    simp only [encs_V]
    clear hs1 hs2 hGl hit
    gi_wp2
    exact hK
  case body =>
    rintro l pre x Φ W hpx ⟨hno, hbx, hsz⟩ hl hΦ -
    have hpl := hpx.length_le
    rw [List.length_append, List.length_singleton] at hpl
    have hpl2 : pre.length < 100000 := by have := HL.out; omega
    have c1 := hbx.cell
    have f1 := hbx.frozen
    have e1 : ((pre ++ [x]).length : Int) = (pre.length : Int) + 1 := by simp
    obtain ⟨n, hn⟩ : ∃ n, n = pre.length := ⟨_, rfl⟩
    rw [← hn] at c1 hbx e1 hpl2
    have hset : Boxed (W.setCell ⟨gb, 0, none⟩ (.int .i64 ((n : Int) + 1))) gb 3 (.int .i64 ((n : Int) + 1)) := hbx.set _
    have hw : IntKind.i64.wrap ((n : Int) + 1) = (n : Int) + 1 := IntWalk.i64_in _ (by omega)
    have HS := Lib.hid (And.intro hset (And.intro hno (And.intro hsz e1)))
    clear hbx hset hno hsz e1 hn hpx hpl hit hGl
    gi_wp2_with fail
    obtain ⟨hset, hno, hsz, e1⟩ := HS.out
    exact ⟨Φ, fun k h => .inl h, ⟨⟨rfl, rfl, rfl, by simp [World.setCell]⟩, fun k hk h1 h2 => Below.heap_setCell _ _ _ k h1⟩, hno, by rw [e1]; exact hset, by simp [World.setCell]; exact hsz⟩
  case done =>
    rintro D Φ W3 ⟨hno, hbx, hsz⟩ hon hD hnD hK
    have c1 := hbx.cell
    have HD := Lib.hid (And.intro hno (And.intro hon (And.intro hD hK)))
    clear hno hbx hon hD hK hnD hit hGl
    gi_wp2_with fail
    obtain ⟨hno, hon, hD, hK⟩ := HD.out
    have hgb := HGB.out
    refine marks_leave [D] W3 (by simp) (fun d hd => ?_) (fun w' hg hk => ⟨.int .i64 (xs.length : Int), by simp [results, Tryz.results49, go_sem], rfl, ?_⟩)
    · simp only [List.mem_cons, List.not_mem_nil, or_false] at hd
      subst hd; exact hK
    · have hg0 : Grow w w' := ((Grow.of_below hb1).trans (Grow.of_below hb2)).trans (hon.grow.trans hg)
      refine ⟨hg0.os, hg0.tape, hg0.output, hg0.size, fun j hj => ?_⟩
      rw [hk j (by simp; omega), hon.block j (by omega) (by omega) (fun h => h), hb2.block j (by omega)]
      exact hb1.block j hj
end Go.Proofs.YtpkamfbjgdmmoaaGreat
end

section
namespace Go.Proofs.YtpkamfbjgdmmoaaGreat
open Go.RowKit Go.Maps Go.Shelf
set_option linter.unusedVariables false
set_option linter.unusedSimpArgs false

def wonB (st : Int) (x : Bal) : Bool := if x.k = 1 then (if x.aye then st == 2 else st == 3) else false
set_option maxRecDepth 100000 in
theorem VoX.won {vb N : Nat} {S : Vs} {F : FP} {w : World} (h : VoX vb N S F w) {k : Nat} (hk : k < 12) (x : Bal) :
    Calls Tryz.prog 63 #[.pointer (some ⟨vb, k * 6, none⟩), .agg (balS.f x).toArray] w fun e w' => e = .returned (.bool (wonB (S.P k).st x)) ∧ Below w.heap.size w w' := by
  obtain ⟨xk, xy, xl, xa, xn, xs⟩ := x
  obtain ⟨w1, hw1⟩ : ∃ w1, w1 = w.alloc (.cells #[.int .i64 xk, .bool xy, .int .i64 xl, .int .i64 xa, .int .i64 xn, .int .i64 xs] 47) := ⟨_, rfl⟩
  have hb1 : Below w.heap.size w w1 := by rw [hw1]; exact (Below.refl _ w).alloc (Nat.le_refl _) _
  have c0 := ((h.below hb1).cells hk).1
  have hr : w1.rangeAt w.heap.size 0 (balS.f ⟨xk, xy, xl, xa, xn, xs⟩) := by rw [hw1]; exact rangeAt_whole (T := balS.T) (World.alloc_heap_new _ _)
  have d0 : w1.cell? ⟨w.heap.size, 0, none⟩ = some (.int .i64 xk) := hr 0 _ rfl
  have d1 : w1.cell? ⟨w.heap.size, 1, none⟩ = some (.bool xy) := hr 1 _ rfl
  obtain ⟨st, hst⟩ : ∃ st, st = (S.P k).st := ⟨_, rfl⟩
  rw [← hst] at c0 ⊢
  rw [show (balS.f ⟨xk, xy, xl, xa, xn, xs⟩).toArray = #[.int .i64 xk, .bool xy, .int .i64 xl, .int .i64 xa, .int .i64 xn, .int .i64 xs] from rfl]
  have HB := Lib.hid hb1
  have HW := Lib.hid hw1
  clear hr hst h hb1
  go_enter Tryz.func63, Tryz.ntmps63
  go_upto_region 1 with fail
  rw [← HW.out]
  clear hw1
  by_cases q : xk = 1
  · have q' : (xk != 1) = false := by simp [q]
    have HQ := Lib.hid q
    clear q
    cases xy
    · go_wp2_with fail
      exact bodyPost_ret (v := .bool (st == 3)) (by simp [results, Tryz.results63, go_sem]) rfl ⟨by simp [wonB, HQ.out], HB.out⟩
    · go_wp2_with fail
      exact bodyPost_ret (v := .bool (st == 2)) (by simp [results, Tryz.results63, go_sem]) rfl ⟨by simp [wonB, HQ.out], HB.out⟩
  · have q' : (xk != 1) = true := by simpa using q
    have HQ := Lib.hid q
    clear q
    go_wp2_with fail
    exact bodyPost_ret (v := .bool false) (by simp [results, Tryz.results63, go_sem]) rfl ⟨by simp [wonB, HQ.out], HB.out⟩
/-- Open's answer. -/
def openE (P : Nat → Pl) (r t : Int) : Int := if ¬ (0 ≤ r ∧ r < 12) ∨ ¬ (0 ≤ t ∧ t < 4) then 1 else if (P r.toNat).st ≠ 0 then 5 else 0
def newPl (t : Int) : Pl := ⟨1, t, 0, 0, 0, 0⟩
def openS (S : Vs) (r t : Int) : Vs := if openE S.P r t = 0 then { S with P := putP S.P r.toNat (newPl t) } else S
def storePl (a v : Value) : Sem Unit := Instr.storeAt 105 a v
theorem storePl_hide (a v : Value) : Instr.storeAt 105 a v = storePl a v := rfl
theorem run_storePl {w : World} {b k : Nat} (h : w.there b k 6) (p : Pl) : (storePl (.pointer (some ⟨b, k, none⟩)) (.agg (plc p).toArray)).run Tryz.prog w = .ok () (w.setCells b k (plc p)) :=
  run_storeAt_mid w b k 105 (plc p).toArray h (by kernel_rfl) (by simp [plc, Value.oneCell'])
set_option maxRecDepth 100000 in
attribute [local go_sem ↓] storePl_hide in
theorem VoX.Open {vb N : Nat} {S : Vs} {F : FP} {w : World} (h : VoX vb N S F w) (r t : Int) :
    Calls Tryz.prog 40 #[.pointer (some ⟨vb, 0, none⟩), .int .i64 r, .int .i64 t] w fun e w' => e = .returned (.int .i64 (openE S.P r t)) ∧ VoTo vb N (openS S r t) F w w' := by
  have hp := h.poll r
  by_cases hr : 0 ≤ r ∧ r < 12
  · have hr' : decide (0 ≤ r ∧ r < 12) = true := decide_eq_true hr
    by_cases ht : 0 ≤ t ∧ t < 4
    · have ht' : decide (0 ≤ t ∧ t < 4) = true := decide_eq_true ht
      obtain ⟨k, rfl⟩ := Int.eq_ofNat_of_zero_le hr.1
      have hk : k < 12 := by omega
      by_cases hst : (S.P k).st = 0
      · have eP : plPtr vb S.P (k : Int) = none := by unfold plPtr; rw [if_neg (fun h => h.2 (by simpa using hst))]
        have eE : openE S.P k t = 0 := by unfold openE; rw [if_neg (fun q => q.elim (fun q => q hr) (fun q => q ht)), if_neg (by simpa using hst)]
        have eS : openS S k t = { S with P := putP S.P k (newPl t) } := by unfold openS; rw [if_pos eE]; rfl
        rw [eP] at hp
        rw [eE, eS]
        have hth := (h.cells hk).2.2.2.2.2.2
        have rs := run_storePl hth (newPl t)
        have hto := h.setP hk (newPl t)
        have hkI : (k : Int) < 12 := by omega
        have hk0 : ¬ (k : Int) < 0 := by omega
        have HR := Lib.hid hr'
        have HT := Lib.hid ht'
        have HP := Lib.hid hp
        have HTO := Lib.hid hto
        unfold plc newPl at rs
        have HRS := Lib.hid rs
        clear hr hr' ht ht' hp hth hto eP eE eS hst h
        go_enter Tryz.func40, Tryz.ntmps40
        go_wp2_with (first
          | (go_at_call 77; refine (bound_Below _ _ _).mono ?_; rw [HR.out]; rintro e w' ⟨rfl, hw⟩; rw [hw]; clear hw w')
          | (go_at_call 83; refine (voting_isTrack _ _).mono ?_; rw [HT.out]; rintro e w' ⟨rfl, hw⟩; rw [hw]; clear hw w')
          | (go_at_call 44; refine HP.out.mono ?_; rintro e w' ⟨rfl, hw⟩; rw [hw]; clear hw w')
          | fail)
        exact bodyPost_ret (v := .int .i64 0) (by simp [results, Tryz.results40, go_sem]) rfl ⟨rfl, HTO.out⟩
      · have eP : plPtr vb S.P (k : Int) = some ⟨vb, k * 6, none⟩ := by unfold plPtr; rw [if_pos ⟨hr, by simpa using hst⟩]; simp
        have eE : openE S.P k t = 5 := by unfold openE; rw [if_neg (fun q => q.elim (fun q => q hr) (fun q => q ht)), if_pos (by simpa using hst)]
        have eS : openS S k t = S := by unfold openS; rw [if_neg (by rw [eE]; decide)]
        rw [eP] at hp
        rw [eE, eS]
        have HR := Lib.hid hr'
        have HT := Lib.hid ht'
        have HP := Lib.hid hp
        have HTO := Lib.hid h
        clear hr hr' ht ht' hp eP eE eS hst h
        go_enter Tryz.func40, Tryz.ntmps40
        go_wp2_with (first
          | (go_at_call 77; refine (bound_Below _ _ _).mono ?_; rw [HR.out]; rintro e w' ⟨rfl, hw⟩; rw [hw]; clear hw w')
          | (go_at_call 83; refine (voting_isTrack _ _).mono ?_; rw [HT.out]; rintro e w' ⟨rfl, hw⟩; rw [hw]; clear hw w')
          | (go_at_call 44; refine HP.out.mono ?_; rintro e w' ⟨rfl, hw⟩; rw [hw]; clear hw w')
          | fail)
        exact bodyPost_ret (v := .int .i64 5) (by simp [results, Tryz.results40, go_sem]) rfl ⟨rfl, VoTo.refl HTO.out⟩
    · have ht' : decide (0 ≤ t ∧ t < 4) = false := decide_eq_false ht
      have eE : openE S.P r t = 1 := by unfold openE; rw [if_pos (.inr ht)]
      have eS : openS S r t = S := by unfold openS; rw [if_neg (by rw [eE]; decide)]
      rw [eE, eS]
      have HR := Lib.hid hr'
      have HT := Lib.hid ht'
      have HTO := Lib.hid h
      clear hr hr' ht ht' hp eE eS h
      go_enter Tryz.func40, Tryz.ntmps40
      go_wp2_with (first
        | (go_at_call 77; refine (bound_Below _ _ _).mono ?_; rw [HR.out]; rintro e w' ⟨rfl, hw⟩; rw [hw]; clear hw w')
        | (go_at_call 83; refine (voting_isTrack _ _).mono ?_; rw [HT.out]; rintro e w' ⟨rfl, hw⟩; rw [hw]; clear hw w')
        | fail)
      exact bodyPost_ret (v := .int .i64 1) (by simp [results, Tryz.results40, go_sem]) rfl ⟨rfl, VoTo.refl HTO.out⟩
  · have hr' : decide (0 ≤ r ∧ r < 12) = false := decide_eq_false hr
    have eE : openE S.P r t = 1 := by unfold openE; rw [if_pos (.inl hr)]
    have eS : openS S r t = S := by unfold openS; rw [if_neg (by rw [eE]; decide)]
    rw [eE, eS]
    have HR := Lib.hid hr'
    have HTO := Lib.hid h
    clear hr hr' hp eE eS h
    go_enter Tryz.func40, Tryz.ntmps40
    go_wp2_with (first
      | (go_at_call 77; refine (bound_Below _ _ _).mono ?_; rw [HR.out]; rintro e w' ⟨rfl, hw⟩; rw [hw]; clear hw w')
      | fail)
    exact bodyPost_ret (v := .int .i64 1) (by simp [results, Tryz.results40, go_sem]) rfl ⟨rfl, VoTo.refl HTO.out⟩
/-- Close's answer. -/
def closeE (P : Nat → Pl) (r st : Int) : Int := if ¬ ((0 ≤ r ∧ r < 12) ∧ (P r.toNat).st ≠ 0) then 4 else if (P r.toNat).st ≠ 1 then 9 else if ¬ (2 ≤ st ∧ st ≤ 6) then 1 else 0
def closeS (S : Vs) (r st en : Int) : Vs := if closeE S.P r st = 0 then { S with P := putP S.P r.toNat ⟨st, (S.P r.toNat).tr, (S.P r.toNat).ay, (S.P r.toNat).na, (S.P r.toNat).su, en⟩ } else S
theorem VoX.setE {vb N : Nat} {S : Vs} {F : FP} {w : World} (h : VoX vb N S F w) {k : Nat} (hk : k < 12) (st en : Int) : VoTo vb N { S with P := putP S.P k ⟨st, (S.P k).tr, (S.P k).ay, (S.P k).na, (S.P k).su, en⟩ } F w ((w.setCell ⟨vb, k * 6, none⟩ (.int .i64 st)).setCell ⟨vb, k * 6 + 5, none⟩ (.int .i64 en)) := by
  obtain ⟨gv, gd, gw, gp, FV, FD, FW, FQ, h1, h2⟩ := h
  have hg : Grow w ((w.setCell ⟨vb, k * 6, none⟩ (.int .i64 st)).setCell ⟨vb, k * 6 + 5, none⟩ (.int .i64 en)) := ⟨rfl, rfl, rfl, by simp [World.setCell]⟩
  have ho : ∀ i, i ≠ vb → ((w.setCell ⟨vb, k * 6, none⟩ (.int .i64 st)).setCell ⟨vb, k * 6 + 5, none⟩ (.int .i64 en)).heap[i]? = w.heap[i]? := fun i hi => (Below.heap_setCell _ _ _ i hi).trans (Below.heap_setCell _ _ _ i hi)
  have b1 := h1.blk.set' hk (j := 0) (by omega) (u := .int .i64 st) (p' := ⟨st, (S.P k).tr, (S.P k).ay, (S.P k).na, (S.P k).su, (S.P k).en⟩) rfl
  have b2 := b1.set' hk (j := 5) (by omega) (u := .int .i64 en) (p' := ⟨st, (S.P k).tr, (S.P k).ay, (S.P k).na, (S.P k).su, en⟩) (by rw [putP_same]; rfl)
  rw [putP_putP] at b2
  refine ⟨F, ⟨gv, gd, gw, gp, FV, FD, FW, FQ, ⟨b2, h1.v.keep hg (fun i hi => ho i (fun e => h1.off.b.1 (e ▸ hi))), h1.d.keep hg (fun i hi => ho i (fun e => h1.off.b.2.1 (e ▸ hi))), h1.g.keep hg (fun i hi => ho i (fun e => h1.off.b.2.2.1 (e ▸ hi))), h1.q.keep hg (fun i hi => ho i (fun e => h1.off.b.2.2.2 (e ▸ hi))), h1.off⟩, h2⟩, fun k hk => .inl hk, hg, fun i hi h3 h4 => ho i (fun e => h3 ((h2 i).2 (.inl e)))⟩
set_option maxRecDepth 100000 in
theorem VoX.Close {vb N : Nat} {S : Vs} {F : FP} {w : World} (h : VoX vb N S F w) (r st en : Int) :
    Calls Tryz.prog 82 #[.pointer (some ⟨vb, 0, none⟩), .int .i64 r, .int .i64 st, .int .i64 en] w fun e w' => e = .returned (.int .i64 (closeE S.P r st)) ∧ VoTo vb N (closeS S r st en) F w w' := by
  have hp := h.poll r
  by_cases hr : (0 ≤ r ∧ r < 12) ∧ (S.P r.toNat).st ≠ 0
  · obtain ⟨k, rfl⟩ := Int.eq_ofNat_of_zero_le hr.1.1
    have hk : k < 12 := by omega
    have eP : plPtr vb S.P (k : Int) = some ⟨vb, k * 6, none⟩ := by unfold plPtr; rw [if_pos hr]; simp
    rw [eP] at hp
    have ho := h.open hk
    rw [Int.toNat_natCast] at hr
    by_cases h1 : (S.P k).st = 1
    · have h1' : ((S.P k).st == 1) = true := by simpa using h1
      rw [h1'] at ho
      by_cases h2 : 2 ≤ st ∧ st ≤ 6
      · have h2' : withinB st 2 6 = true := by simpa [withinB] using h2
        have eE : closeE S.P k st = 0 := by unfold closeE; rw [Int.toNat_natCast, if_neg (fun q => q hr), if_neg (fun q => q h1), if_neg (fun q => q h2)]
        have eS : closeS S k st en = { S with P := putP S.P k ⟨st, (S.P k).tr, (S.P k).ay, (S.P k).na, (S.P k).su, en⟩ } := by unfold closeS; rw [if_pos eE]; rfl
        rw [eE, eS]
        have hto := h.setE hk st en
        obtain ⟨c0, -, c5, hfr, -⟩ := h.cells hk
        have f0 := hfr (k * 6)
        have f5 := hfr (k * 6 + 5)
        have HP := Lib.hid hp
        have HO := Lib.hid ho
        have H2 := Lib.hid h2'
        have HTO := Lib.hid hto
        clear hp ho h2 h2' hto hr h1 h1' eE eS eP h hfr
        go_enter Tryz.func82, Tryz.ntmps82
        go_wp2_with (first
          | (go_at_call 44; refine HP.out.mono ?_; rintro e w' ⟨rfl, hw⟩; rw [hw]; clear hw w')
          | (go_at_call 47; refine HO.out.mono ?_; rintro e w' ⟨rfl, hw⟩; rw [hw]; clear hw w')
          | (go_at_call 36; refine (cvWithin _ _ _ _).mono ?_; rw [H2.out]; rintro e w' ⟨rfl, hw⟩; rw [← hw]; clear hw w')
          | fail)
        exact bodyPost_ret (v := .int .i64 0) (by simp [results, Tryz.results82, go_sem]) rfl ⟨rfl, HTO.out⟩
      · have h2' : withinB st 2 6 = false := by simp only [withinB]; by_cases q : 2 ≤ st <;> simp [q] <;> omega
        have eE : closeE S.P k st = 1 := by unfold closeE; rw [Int.toNat_natCast, if_neg (fun q => q hr), if_neg (fun q => q h1), if_pos h2]
        have eS : closeS S k st en = S := by unfold closeS; rw [if_neg (by rw [eE]; decide)]
        rw [eE, eS]
        have HP := Lib.hid hp
        have HO := Lib.hid ho
        have H2 := Lib.hid h2'
        have HTO := Lib.hid h
        clear hp ho h2 h2' hr h1 h1' eE eS eP h
        go_enter Tryz.func82, Tryz.ntmps82
        go_wp2_with (first
          | (go_at_call 44; refine HP.out.mono ?_; rintro e w' ⟨rfl, hw⟩; rw [hw]; clear hw w')
          | (go_at_call 47; refine HO.out.mono ?_; rintro e w' ⟨rfl, hw⟩; rw [hw]; clear hw w')
          | (go_at_call 36; refine (cvWithin _ _ _ _).mono ?_; rw [H2.out]; rintro e w' ⟨rfl, hw⟩; rw [← hw]; clear hw w')
          | fail)
        exact bodyPost_ret (v := .int .i64 1) (by simp [results, Tryz.results82, go_sem]) rfl ⟨rfl, VoTo.refl HTO.out⟩
    · have h1' : ((S.P k).st == 1) = false := by simpa using h1
      rw [h1'] at ho
      have eE : closeE S.P k st = 9 := by unfold closeE; rw [Int.toNat_natCast, if_neg (fun q => q hr), if_pos h1]
      have eS : closeS S k st en = S := by unfold closeS; rw [if_neg (by rw [eE]; decide)]
      rw [eE, eS]
      have HP := Lib.hid hp
      have HO := Lib.hid ho
      have HTO := Lib.hid h
      clear hp ho hr h1 h1' eE eS eP h
      go_enter Tryz.func82, Tryz.ntmps82
      go_wp2_with (first
        | (go_at_call 44; refine HP.out.mono ?_; rintro e w' ⟨rfl, hw⟩; rw [hw]; clear hw w')
        | (go_at_call 47; refine HO.out.mono ?_; rintro e w' ⟨rfl, hw⟩; rw [hw]; clear hw w')
        | fail)
      exact bodyPost_ret (v := .int .i64 9) (by simp [results, Tryz.results82, go_sem]) rfl ⟨rfl, VoTo.refl HTO.out⟩
  · have eP : plPtr vb S.P r = none := by unfold plPtr; rw [if_neg hr]
    rw [eP] at hp
    have eE : closeE S.P r st = 4 := by unfold closeE; rw [if_pos hr]
    have eS : closeS S r st en = S := by unfold closeS; rw [if_neg (by rw [eE]; decide)]
    rw [eE, eS]
    have HP := Lib.hid hp
    have HTO := Lib.hid h
    clear hp hr eE eS eP h
    go_enter Tryz.func82, Tryz.ntmps82
    go_wp2_with (first
      | (go_at_call 44; refine HP.out.mono ?_; rintro e w' ⟨rfl, hw⟩; rw [hw]; clear hw w')
      | fail)
    exact bodyPost_ret (v := .int .i64 4) (by simp [results, Tryz.results82, go_sem]) rfl ⟨rfl, VoTo.refl HTO.out⟩
end Go.Proofs.YtpkamfbjgdmmoaaGreat
end
