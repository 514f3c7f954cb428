/-
  Joined texts.
-/
import Derived.Shelf.Abstract
import Derived.Shelf.RegionOpen
import Derived.OwnWalkIn
import Derived.Maps.OwnIn
import Derived.TacticsInMore
import Derived.LoopNIn
import Derived.LoopIn
import Derived.Deep.DeepCutAuto
import Derived.Great.BuildSlice
import Derived.Stop.RegionWithIn
import Derived.Deep.MidRow
import Derived.Test.YteioacpfphigjaaGreatMzd

section
namespace Go.Proofs.YteioacpfphigjaaGreat
open Go.RowKit
set_option linter.unusedVariables false
set_option linter.unusedSimpArgs false

/-- Where a search ends. -/
def Found (ts : List Tk) (t : Tk) (i : Nat) : Prop := i ≤ ts.length ∧ (∀ h : 0 < i ∧ i ≤ ts.length, cmpT (ts[i - 1]'(by omega)) t < 0) ∧ ∀ h : i < ts.length, 0 ≤ cmpT ts[i] t
/-- While it goes on. -/
structure Mid (ts : List Tk) (t : Tk) (i j : Nat) : Prop where
  le : i ≤ j
  top : j ≤ ts.length
  lo : ∀ h : 0 < i ∧ i ≤ ts.length, cmpT (ts[i - 1]'(by omega)) t < 0
  hi : ∀ h : j < ts.length, 0 ≤ cmpT ts[j] t
/-- What it has at hand. -/
structure SH (v : Value) (ts : List Tk) (t : Tk) (bx : Nat) (w0 w : World) : Prop where
  rd : RdT w v ts
  box : w.heap[bx]? = some (.cells (tc t).toArray 143 (0, 0))
  lt : bx < w.heap.size
  old : Below w0.heap.size w0 w
theorem SH.on {v : Value} {ts : List Tk} {t : Tk} {bx : Nat} {w0 w w' : World} (h : SH v ts t bx w0 w) (hb : Below w.heap.size w w') : SH v ts t bx w0 w' :=
  ⟨h.rd.below hb, (hb.block bx h.lt).trans h.box, Nat.lt_of_lt_of_le h.lt hb.size, h.old.trans (hb.mono h.old.size)⟩
theorem rangeAt_box {w : World} {b : Nat} {t : Tk} (h : w.heap[b]? = some (.cells (tc t).toArray 143 (0, 0))) : w.rangeAt b 0 (tc t) := fun j u hj => by
  rw [Nat.zero_add, World.cell?, h]; simpa using hj

set_option maxHeartbeats 8000000 in
set_option maxRecDepth 100000 in
theorem search_ts (v : Value) (ts : List Tk) (t : Tk) (w : World) (hr : RdT w v ts) (hl : ts.length ≤ 900) :
    Calls Tryz.prog 83 #[v, .agg (tc t).toArray, .func (.func 84) #[] #[]] w fun e w' => ∃ i b, e = .returned (.tuple #[.int .i64 (i : Nat), .bool b]) ∧ Found ts t i ∧ Below w.heap.size w w' := by
  obtain ⟨ao, cap, rfl⟩ := hr.lenOf
  obtain ⟨n, hn⟩ : ∃ n, n = ts.length := ⟨_, rfl⟩
  obtain ⟨wz, hwz⟩ : ∃ wz, wz = w.alloc (.cells (tc t).toArray 143) := ⟨_, rfl⟩
  have hS : SH (.slice ao n cap) ts t w.heap.size w wz := by
    rw [hn, hwz]
    exact ⟨hr.below ((Below.refl _ _).alloc (Nat.le_refl _) _), heap_alloc_new w _, by simp, (Below.refl _ _).alloc (Nat.le_refl _) _⟩
  rw [← hn]
  obtain ⟨bx, hbx⟩ : ∃ bx, bx = w.heap.size := ⟨_, rfl⟩
  rw [← hbx] at hS
  have HS := Lib.hid hS
  have HN := Lib.hid hn
  have hn9 : (n : Int) ≤ 900 := by omega
  clear hS hr hl hn
  go_enter Tryz.func83, Tryz.ntmps83
  go_upto_region 3 with fail
  rw [← hwz, ← hbx]
  clear hwz
  go_loopw [9, 10] (fun a b wr => ∃ i j : Nat, a = .int .i64 i ∧ b = .int .i64 j ∧ Mid ts t i j ∧ SH (.slice ao n cap) ts t bx w wr) (fun a b _ => (intOf b).toNat - (intOf a).toNat)
  case atStart => exact ⟨0, n, rfl, rfl, ⟨by omega, by rw [HN.out]; omega, by omega, fun h => by have := HN.out; omega⟩, HS.out⟩
  case round =>
    obtain ⟨i, j, rfl, rfl, hm, hs⟩ := hrel
    have hji := hm.le
    have hjn := hm.top
    rw [← HN.out] at hjn
    by_cases hlt : i < j
    · have hlt' : (i : Int) < j := by omega
      obtain ⟨h, hh⟩ : ∃ h, h = (i + j) / 2 := ⟨_, rfl⟩
      obtain ⟨s, hs2⟩ : ∃ s, s = i + j := ⟨_, rfl⟩
      have hhn : h < n := by omega
      have hhn' : (h : Int) < n := by omega
      have hhl : h < ts.length := by rw [← HN.out]; exact hhn
      have hih : i ≤ h := by omega
      have hhj : h < j := by omega
      have D1 : (s : Int) / 2 = (h : Int) := by omega
      have D2 : (s : Int) % 18446744073709551616 = (s : Int) := by omega
      obtain ⟨u, hu⟩ : ∃ u, u = ts[h] := ⟨_, rfl⟩
      obtain ⟨rb, off, rfl, hrng, hrb⟩ := hs.rd.at hhl
      rw [← hu] at hrng
      obtain ⟨c, hcc⟩ : ∃ c, c = cmpT u t := ⟨_, rfl⟩
      have hmid1 : c < 0 → Mid ts t (h + 1) j := fun h0 => ⟨by omega, by rw [← HN.out]; omega, fun hx => by simp only [Nat.add_sub_cancel]; rw [← hu, ← hcc]; exact h0, hm.hi⟩
      have hmid2 : ¬ c < 0 → Mid ts t i h := fun h0 => ⟨hih, by omega, hm.lo, fun hx => by rw [← hu, ← hcc]; omega⟩
      have HM1 := Lib.hid hmid1
      have HM2 := Lib.hid hmid2
      have HSR := Lib.hid hs
      have HR := Lib.hid hrng
      have HCC := Lib.hid hcc
      have hW : IntKind.i64.wrap ((i : Int) + (j : Int)) = (s : Int) := by rw [IntWalk.i64_in _ (by omega)]; omega
      clear hm hs hrng hmid1 hmid2 hcc hu hs2 hh hhl
      go_upto_region 5 with fail
      refine wp_region_plan_lit (L := Later) 49 [.pure, .pure, .pure, .pure, .pin (.agg (tc u).toArray), .pin (.agg (tc t).toArray), .pin (.int .i64 c), .pure] (by kernel_rfl) (by kernel_rfl) rfl (fun w => Below.refl _ w) Later.tr trivial ?_
      iterate 4
        first
        | (refine wm_skip (by rfl) (fun K hK => ?_))
        | (refine wm_move (by rfl) (.inl rfl) (fun K hK => ?_))
        | (refine wm_move (by rfl) (.inr rfl) (fun K hK => ?_))
        | (refine wm_run (by rfl) (fun K hK => ?_)
           apply Exists.intro
           apply And.intro
           · intro w hL
             simp [go_sem, hhn]
             rfl)
        simp only [Act.put, Act.eval, List.setIfInBounds_toArray, List.set_cons_succ, List.set_cons_zero]
        refine hK _ ?_
        clear hK K
      refine wm_pin (fun K hK => ⟨fun w' hL hk => ?_, ?_⟩)
      · have hs' := HSR.out.on ((Below.refl _ wr).drew.trans (hL.mono (Nat.le_refl _)))
        have hr' := rangeAt_of_block HR.out (hL.block rb hrb)
        go_wp2_with (first | (refine wpl_loadT _ rfl rfl rfl hr' ?_) | fail)
        exact qr_pin rfl rfl rfl (Below.refl _ _)
      simp only [Act.put, Act.eval, List.setIfInBounds_toArray, List.set_cons_succ, List.set_cons_zero]
      refine hK _ ?_
      clear hK K
      refine wm_pin (fun K hK => ⟨fun w' hL hk => ?_, ?_⟩)
      · have hs' := HSR.out.on ((Below.refl _ wr).drew.trans (hL.mono (Nat.le_refl _)))
        go_wp2_with (first | (refine wpl_loadT _ rfl rfl rfl (rangeAt_box hs'.box) ?_) | fail)
        exact qr_pin rfl rfl rfl (Below.refl _ _)
      simp only [Act.put, Act.eval, List.setIfInBounds_toArray, List.set_cons_succ, List.set_cons_zero]
      refine hK _ ?_
      clear hK K
      refine wm_pin (fun K hK => ⟨fun w' hL hk => ?_, ?_⟩)
      · go_wp2_with (first | (go_at_call 84; refine (agenda_compare u t _).mono ?_; rw [← HCC.out]; rintro e wn ⟨rfl, hbn⟩) | fail)
        exact qr_pin rfl rfl rfl hbn
      simp only [Act.put, Act.eval, List.setIfInBounds_toArray, List.set_cons_succ, List.set_cons_zero]
      refine hK _ ?_
      clear hK K
      iterate 1
        first
        | (refine wm_skip (by rfl) (fun K hK => ?_))
        | (refine wm_move (by rfl) (.inl rfl) (fun K hK => ?_))
        | (refine wm_move (by rfl) (.inr rfl) (fun K hK => ?_))
        | (refine wm_run (by rfl) (fun K hK => ?_)
           apply Exists.intro
           apply And.intro
           · intro w hL
             simp [go_sem]
             rfl)
        simp only [Act.put, Act.eval, List.setIfInBounds_toArray, List.set_cons_succ, List.set_cons_zero]
        refine hK _ ?_
        clear hK K
      refine wm_end (fun w' hL hk => ?_)
      clear hk
      have hs1 := Lib.hid (HSR.out.on ((Below.refl _ wr).drew.trans (hL.mono (Nat.le_refl _))))
      by_cases h0 : c < 0
      · have hm1 := Lib.hid (HM1.out h0)
        go_wp2
        exact ⟨⟨h + 1, j, by go_num, rfl, hm1.out, hs1.out⟩, by simp [intOf]; omega⟩
      · have hm1 := Lib.hid (HM2.out h0)
        go_wp2
        exact ⟨⟨i, h, rfl, rfl, hm1.out, hs1.out⟩, by simp [intOf]; omega⟩
    · have hij : i = j := by omega
      subst hij
      have hF : Found ts t i := ⟨by have := hm.top; omega, hm.lo, hm.hi⟩
      have HF := Lib.hid hF
      have HSR := Lib.hid hs
      clear hF hm hlt
      by_cases hin : i < n
      · have hin' : (i : Int) < n := by omega
        have hhl : i < ts.length := by rw [← HN.out]; exact hin
        obtain ⟨u, hu⟩ : ∃ u, u = ts[i] := ⟨_, rfl⟩
        obtain ⟨rb, off, rfl, hrng, hrb⟩ := hs.rd.at hhl
        rw [← hu] at hrng
        obtain ⟨c, hcc⟩ : ∃ c, c = cmpT u t := ⟨_, rfl⟩
        have HR := Lib.hid hrng
        have HCC := Lib.hid hcc
        clear hs hrng hcc hu hhl hji
        go_upto_region 8 with fail
        refine wp_region_plan_lit (L := Later) 49 [.pure, .pure, .pure, .pure, .pure, .pure, .pure, .pure, .pure, .pin (.agg (tc u).toArray), .pin (.agg (tc t).toArray), .pin (.int .i64 c), .pure, .pure, .pure, .pure] (by kernel_rfl) (by kernel_rfl) rfl (fun w => Below.refl _ w) Later.tr trivial ?_
        iterate 9
          first
          | (refine wm_skip (by rfl) (fun K hK => ?_))
          | (refine wm_move (by rfl) (.inl rfl) (fun K hK => ?_))
          | (refine wm_move (by rfl) (.inr rfl) (fun K hK => ?_))
          | (refine wm_run (by rfl) (fun K hK => ?_)
             apply Exists.intro
             apply And.intro
             · intro w hL
               simp [go_sem, hin]
               rfl)
          simp only [Act.put, Act.eval, List.setIfInBounds_toArray, List.set_cons_succ, List.set_cons_zero]
          refine hK _ ?_
          clear hK K
        refine wm_pin (fun K hK => ⟨fun w' hL hk => ?_, ?_⟩)
        · have hs' := HSR.out.on ((Below.refl _ wr).drew.trans (hL.mono (Nat.le_refl _)))
          have hr' := rangeAt_of_block HR.out (hL.block rb hrb)
          go_wp2_with (first | (refine wpl_loadT_g _ (by rfl) rfl rfl hr' ?_) | fail)
          exact qr_pin rfl rfl rfl (Below.refl _ _)
        simp only [Act.put, Act.eval, List.setIfInBounds_toArray, List.set_cons_succ, List.set_cons_zero]
        refine hK _ ?_
        clear hK K
        refine wm_pin (fun K hK => ⟨fun w' hL hk => ?_, ?_⟩)
        · have hs' := HSR.out.on ((Below.refl _ wr).drew.trans (hL.mono (Nat.le_refl _)))
          go_wp2_with (first | (refine wpl_loadT_g _ (by rfl) rfl rfl (rangeAt_box hs'.box) ?_) | fail)
          exact qr_pin rfl rfl rfl (Below.refl _ _)
        simp only [Act.put, Act.eval, List.setIfInBounds_toArray, List.set_cons_succ, List.set_cons_zero]
        refine hK _ ?_
        clear hK K
        refine wm_pin (fun K hK => ⟨fun w' hL hk => ?_, ?_⟩)
        · go_wp2_with (first | (go_at_call 84; refine (agenda_compare u t _).mono ?_; rw [← HCC.out]; rintro e wn ⟨rfl, hbn⟩) | fail)
          exact qr_pin rfl rfl rfl hbn
        simp only [Act.put, Act.eval, List.setIfInBounds_toArray, List.set_cons_succ, List.set_cons_zero]
        refine hK _ ?_
        clear hK K
        iterate 4
          first
          | (refine wm_skip (by rfl) (fun K hK => ?_))
          | (refine wm_move (by rfl) (.inl rfl) (fun K hK => ?_))
          | (refine wm_move (by rfl) (.inr rfl) (fun K hK => ?_))
          | (refine wm_run (by rfl) (fun K hK => ?_)
             apply Exists.intro
             apply And.intro
             · intro w hL
               simp [go_sem]
               rfl)
          simp only [Act.put, Act.eval, List.setIfInBounds_toArray, List.set_cons_succ, List.set_cons_zero]
          refine hK _ ?_
          clear hK K
        refine wm_end (fun w' hL hk => ?_)
        clear hk
        have hs1 := Lib.hid (HSR.out.on ((Below.refl _ wr).drew.trans (hL.mono (Nat.le_refl _))))
        go_wp2
        refine bodyPost_ret (v := .tuple #[.int .i64 (i : Nat), .bool (c == 0)]) (by simp [results, Tryz.results83, go_sem]) rfl ⟨i, _, rfl, HF.out, hs1.out.old⟩
      · have hin2 : ((i : Int) < (n : Int)) = False := by simp; omega
        clear hs hji hin
        go_upto_region 8 with fail
        refine wp_region_plan_lit (L := Later) 49 [.pure, .pure, .pure, .pure, .pure, .pure, .pure, .pure, .pure, .pure, .pure, .pure, .pure, .pure, .pure, .pure] (by kernel_rfl) (by kernel_rfl) rfl (fun w => Below.refl _ w) Later.tr trivial ?_
        iterate 16
          first
          | (refine wm_skip (by rfl) (fun K hK => ?_))
          | (refine wm_move (by rfl) (.inl rfl) (fun K hK => ?_))
          | (refine wm_move (by rfl) (.inr rfl) (fun K hK => ?_))
          | (refine wm_run (by rfl) (fun K hK => ?_)
             apply Exists.intro
             apply And.intro
             · intro w hL
               simp [go_sem, hin2]
               rfl)
          simp only [Act.put, Act.eval, List.setIfInBounds_toArray, List.set_cons_succ, List.set_cons_zero]
          refine hK _ ?_
          clear hK K
        refine wm_end (fun w' hL hk => ?_)
        clear hk
        have hs1 := Lib.hid (HSR.out.on ((Below.refl _ wr).drew.trans (hL.mono (Nat.le_refl _))))
        go_wp2
        refine bodyPost_ret (v := .tuple #[.int .i64 (i : Nat), .bool false]) (by simp [results, Tryz.results83, go_sem]) rfl ⟨i, _, rfl, HF.out, hs1.out.old⟩
end Go.Proofs.YteioacpfphigjaaGreat
end

section
namespace Go.Proofs.YteioacpfphigjaaGreat
open Go.RowKit Go.Shelf
attribute [local go_sem] Oper.semAt_some
set_option linter.unusedVariables false
set_option linter.unusedSimpArgs false

theorem zeroTA : ∃ zc : Array Value, ((Tryz.prog.info? 143).bind (·.zero)) = some (.agg zc) ∧ zc.size = 36 := by
  refine ⟨(Array.replicate 36 undef |>.mapIdx fun i _ => if i < 3 then Value.int .i64 0 else if i < 35 then .int .u8 0 else .int .i64 0), ?_, by decide +kernel⟩
  kernel_rfl
section
variable {F : Fence} {nF : Nat} {w : World} {ops : Array Oper} {rest : List Oper} {o : Oper} {a : Act} {Q : Exit → Act → World → Prop}
theorem wplIn_loadT {b k : Nat} {t : Tk} (x : Operand) (hgd : o.guard = none) (ho : o.op = .load 143 x) (hx : a.eval x = .pointer (some ⟨b, k, none⟩)) (hr : w.rangeAt b k (tc t))
    (h : wpListIn F nF Tryz.prog ops Q rest (a.put o.dst (.agg (tc t).toArray)) w) : wpListIn F nF Tryz.prog ops Q (o :: rest) a w := by
  refine wpListIn_plain hgd fun K hK => ?_
  unfold Oper.wpIn
  refine ⟨by simp [Oper.about, ho], ?_⟩
  rw [Oper.semAt_plain F _ _ (by rw [ho]; intro c hc'; cases hc')]
  unfold execOp
  simp only [ho, hx, Sem.run_bind, Sem.run_pure, run_loadAt_mid w b k 143 (tc t) _ hr Tryz.underlying143 rfl (by rw [tc_len]; exact sizeT), Result.andThen_ok]
  exact hK _ _ h
/-- A new task's place. -/
theorem wplIn_allocT (hgd : o.guard = none) (ho : o.op = .alloc 143)
    (h : ∀ C : Array Value, C.size = 36 → wpListIn F nF Tryz.prog ops Q rest (a.put o.dst (.pointer (some ⟨w.heap.size, 0, none⟩))) (w.alloc (.cells C 143))) : wpListIn F nF Tryz.prog ops Q (o :: rest) a w := by
  obtain ⟨zc, hz, hzs⟩ := zeroTA
  obtain ⟨i0, hi, hz0⟩ := Option.bind_eq_some_iff.1 hz
  refine wpListIn_plain hgd fun K hK => ?_
  unfold Oper.wpIn
  refine ⟨by simp [Oper.about, ho], ?_⟩
  rw [Oper.semAt_plain F _ _ (by rw [ho]; intro c hc'; cases hc')]
  have := h zc hzs
  unfold execOp
  simp [ho, Instr.alloc, zeroValue, typeInfo, hi, hz0, newVar, newRow, Value.cells, go_sem]
  exact hK _ _ this
theorem wplIn_storeT {b : Nat} {t : Tk} {C : Array Value} (x y : Operand) (hgd : o.guard = none) (ho : o.op = .store 143 x y) (hx : a.eval x = .pointer (some ⟨b, 0, none⟩)) (hy : a.eval y = .agg (tc t).toArray) (hh : w.heap[b]? = some (.cells C 143 (0, 0))) (hC : C.size = 36)
    (h : wpListIn F nF Tryz.prog ops Q rest (a.put o.dst undef) (w.setRow b (tc t).toArray)) : wpListIn F nF Tryz.prog ops Q (o :: rest) a w := by
  refine wpListIn_plain hgd fun K hK => ?_
  unfold Oper.wpIn
  refine ⟨by simp [Oper.about, ho], ?_⟩
  rw [Oper.semAt_plain F _ _ (by rw [ho]; intro c hc'; cases hc')]
  unfold execOp
  have hr : (Instr.storeAt 143 (.pointer (some ⟨b, 0, none⟩)) (.agg (tc t).toArray)).run Tryz.prog w = .ok () (w.setRow b (tc t).toArray) := by
    simp only [Instr.storeAt, Instr.sureAddr, Sem.run_bind, Sem.run_pure, Result.andThen_ok, run_storeVar_row w b 143 143 C (tc t).toArray hh (by rw [List.size_toArray, tc_len]; exact sizeT) (by simp [tc_len, hC]) (by rw [Array.all_eq_true_iff_forall_mem]; intro u hu; exact tc_one t u (by simpa using hu))]
  simp only [ho, hx, hy, Sem.run_bind, Sem.run_pure, hr, Result.andThen_ok]
  exact hK _ _ h
end

/-- The agenda's memory: its struct, its row. -/
structure AgA (B : Nat) (g : Nat) (v : Value) (ts : List Tk) (w : World) : Prop where
  at_ : w.heap[g]? = some (.cells #[v] 124 (0, 0))
  own : OwnT B v ts w
  ne : v.ownBlock ≠ some g
  lo : B ≤ g
theorem OwnT.block {B : Nat} {v : Value} {ts : List Tk} {w : World} (h : OwnT B v ts w) {k : Nat} (hk : v.ownBlock = some k) : B ≤ k ∧ k < w.heap.size := World.ownsRow.lt h k hk
theorem rangeAt_lt' {w : World} {b o : Nat} {t : Tk} (h : w.rangeAt b o (tc t)) : b < w.heap.size := rangeAt_lt h (fun e => by have := tc_len t; rw [e] at this; simp at this)
theorem pre_snocT {pre rest xs : List Tk} {x : Tk} (h : xs = pre ++ (x :: rest)) : (pre ++ [x]) <+: xs := ⟨rest, by rw [h]; simp⟩

set_option maxHeartbeats 4000000 in
set_option maxRecDepth 100000 in
theorem all_iter (n : Nat) (bx g : Nat) (v : Value) (ts : List Tk) (w : World) (hbx : w.cell? ⟨bx, 0, none⟩ = some (.pointer (some ⟨g, 0, none⟩))) (hg : w.heap[g]? = some (.cells #[v] 124 (0, 0))) (hr : RdT w v ts) (hl : ts.length ≤ 900)
    (G : FP) (hGb : G bx) (hGg : G g) (hGv : ∀ a n c, v = .slice (some a) n c → ts ≠ [] → G a.block) :
    IterF Tryz.prog n 64 #[.pointer (some ⟨bx, 0, none⟩)] (fun t : Tk => #[.agg (tc t).toArray]) ts G w := by
  intro lp B Ψ J Jx Φ0 W hgw hG hΨ hJ hJx hround h0
  have hc1 : W.cell? ⟨bx, 0, none⟩ = some (.pointer (some ⟨g, 0, none⟩)) := (World.cell?_of_block (hG bx hGb).2).trans hbx
  have hc2 : W.cell? ⟨g, 0, none⟩ = some v := by rw [World.cell?, (hG g hGg).2, hg]; rfl
  have hrW : RdT W v ts := by
    rcases hr with h | ⟨b, off, cap, rfl, h2, h3⟩
    · exact .inl h
    · refine .inr ⟨b, off, cap, rfl, h2, ?_⟩
      by_cases hc : ts = []
      · subst hc; intro j u hj; simp [Tc] at hj
      · exact rangeAt_of_block h3 (hG b (hGv _ _ _ rfl hc)).2
  obtain ⟨hs1, hs2, hs3⟩ := hJ _ _ _ h0
  refine callsIn_of_wp Tryz.func64 rfl trivial ?_ rfl
  simp only [Tryz.ntmps64, List.size_toArray, List.length_cons, List.length_nil, Nat.reduceAdd, Nat.reduceSub, Array.replicate_succ, Array.replicate_zero, List.push_toArray, List.append_toArray, List.nil_append, List.cons_append]
  have HR := Lib.hid hrW
  have HL := Lib.hid hl
  have HRD := Lib.hid hround
  have HJ := Lib.hid hJ
  have HP := Lib.hid hΨ
  have HH0 := Lib.hid h0
  have HS3 := Lib.hid hs3
  have HS1 := Lib.hid hs1
  clear hr hrW hround hJ hJx hG hΨ hbx hg hGv hl h0 hs1 hs3
  gi_wp2_with (first | (gi_at_call 65; refine (callsIn_wide.2 (clone_ts _ _ _ HR.out HL.out)).mono ?_; rintro e wc ⟨vc, rfl, hoc, hbc⟩; obtain ⟨co, ccap, rfl⟩ := hoc.reads.lenOf) | (refine ⟨trivial, ?_⟩; gi_at_call 65; refine (callsIn_wide.2 (clone_ts _ _ _ HR.out HL.out)).mono ?_; rintro e wc ⟨vc, rfl, hoc, hbc⟩; obtain ⟨co, ccap, rfl⟩ := hoc.reads.lenOf) | fail)
  have hcs := hbc.size
  have hCR := hoc.reads
  have hkeep : ∀ wr, Only Ψ Φ0 wc wr → RdT wr (.slice co ts.length ccap) ts := fun wr ho => by
    rcases hCR with h | ⟨b, off, cap', hv, h2, h3⟩
    · exact .inl h
    · refine .inr ⟨b, off, cap', hv, h2, ?_⟩
      by_cases hc : ts = []
      · subst hc; intro j u hj; simp [Tc] at hj
      · have hne : Tc ts ≠ [] := by
          intro e
          have := Tc_len ts
          rw [e] at this
          have h0 := List.length_pos_iff.2 hc
          simp at this
          omega
        have hlt := rangeAt_lt h3 hne
        have hge : W.heap.size ≤ b := by
          have hob : (Value.slice co ts.length ccap).ownBlock = some b := by rw [hv]; rfl
          exact (OwnT.block hoc hob).1
        exact rangeAt_of_block h3 (ho.block b hlt (fun h => by have := HP.out b h; omega) (fun h => by have := (HS1.out b h).2; omega))
  have HK := Lib.hid hkeep
  have HO1 := Lib.hid (Only.of_later (Ψ := Ψ) (Φ := Φ0) hbc)
  have hJc : J [] Φ0 wc := HS3.out wc (Grow.of_below hbc) (fun k hk => hbc.block k (hk.elim (fun h => by omega) (fun h => (HS1.out k h).2)))
  have HJC := Lib.hid hJc
  have hbig : (ts.length : Int) ≤ 900 := by have := HL.out; omega
  clear hCR hkeep hJc hoc hbc hc1 hc2
  gi_loopw [13] (fun r wr => ∃ (k : Nat) (Φ : FP), k ≤ ts.length ∧ r = .int .i64 k ∧ J (ts.take k) Φ wr ∧ Only Ψ Φ0 wc wr ∧ (∀ j, Φ j → Φ0 j ∨ wc.heap.size ≤ j)) (fun r wr => ts.length - (intOf r).toNat)
  case atStart => exact ⟨0, Φ0, Nat.zero_le _, rfl, HJC.out, Only.refl _ _ _, fun j h => .inl h⟩
  case round =>
    obtain ⟨k, Φ, hk, rfl, hJ2, ho2, hn2⟩ := hrel
    by_cases hlt : k < ts.length
    · have hlt' : (k : Int) < ts.length := by omega
      obtain ⟨t, ht⟩ : ∃ t, t = ts[k] := ⟨_, rfl⟩
      obtain ⟨b, off, rfl, hrng, hrb⟩ := (HK.out wr ho2).at hlt
      rw [← ht] at hrng
      have htk : ts.take (k + 1) = ts.take k ++ [t] := by rw [List.take_succ_eq_append_getElem hlt, ht]
      have hpre : (ts.take k ++ [t]) <+: ts := by rw [← htk]; exact List.take_prefix _ _
      obtain ⟨q1, q2, q3⟩ := HJ.out _ _ _ hJ2
      have hW1 : ∀ C W1, W1 = (wr.alloc (.cells C 143)).setRow wr.heap.size (tc t).toArray → Below wr.heap.size wr W1 ∧ J (ts.take k) Φ W1 ∧ W1.heap[wr.heap.size]? = some (.cells (tc t).toArray 143 (0, 0)) := fun C W1 e => by
        have hb1 : Below wr.heap.size wr W1 := by
          rw [e]
          exact ((Below.refl _ wr).alloc (Nat.le_refl _) _).trans ⟨rfl, rfl, rfl, by simp, fun k hk => setRow_other _ _ k _ (by omega)⟩
        exact ⟨hb1, q3 W1 (Grow.of_below hb1) (fun k hk => hb1.block k (hk.elim (fun h => by omega) (fun h => (q1 k h).2))), by rw [e]; exact setRow_heap _ _ _ _ _ _ (heap_alloc_new wr _)⟩
      have HW := Lib.hid hW1
      have HR2 := Lib.hid hrng
      have HT := Lib.hid htk
      have HPR := Lib.hid hpre
      have HO2 := Lib.hid ho2
      have HN2 := Lib.hid hn2
      clear hW1 hrng htk hpre q1 q2 q3 ht hJ2 ho2 hn2
      gi_wp2_with (first
        | (refine wplIn_loadT _ rfl rfl rfl HR2.out ?_)
        | (refine wplIn_allocT rfl rfl ?_; intro C hC)
        | (refine wplIn_storeT (t := t) (C := C) _ _ rfl rfl rfl rfl (heap_alloc_new wr _) hC ?_; obtain ⟨W1, hW1⟩ : ∃ W1, W1 = (wr.alloc (.cells C 143)).setRow wr.heap.size (tc t).toArray := ⟨_, rfl⟩; rw [← hW1]; obtain ⟨hb1, hJ1, hc1⟩ := HW.out C W1 hW1; obtain ⟨fn, tm, asg, bd, hy, hR⟩ := HRD.out (ts.take k) t Φ W1 HPR.out hJ1; dsimp only at hy; have HC1 := Lib.hid (rangeAt_box hc1); have HB1 := Lib.hid hb1; clear hW1 hb1 hJ1 hc1)
        | (refine wplIn_loadT _ rfl rfl rfl HC1.out ?_)
        | fail)
      refine hR.mono ?_
      rintro e W' ⟨Φ', hn', ho', (⟨rfl, hJ'⟩ | ⟨rfl, hJ'⟩)⟩
      · have ho3 : Only Ψ Φ0 wc W' := (HO2.out.trans (Φ' := Φ0) (Only.of_later HB1.out) (fun j h => .inl h)).trans ho' HN2.out
        have hn3 : ∀ j, Φ' j → Φ0 j ∨ wc.heap.size ≤ j := fun j hj => (hn' j hj).elim (HN2.out j) (fun h => .inr (by have := HO2.out.grow.size; have := HB1.out.size; omega))
        gi_wp2
        exact ⟨⟨k + 1, Φ', hlt, by go_num, by rw [HT.out]; exact hJ', ho3, hn3⟩, by simp [intOf]; omega⟩
      · have ho3 : Only Ψ Φ0 wc W' := (HO2.out.trans (Φ' := Φ0) (Only.of_later HB1.out) (fun j h => .inl h)).trans ho' HN2.out
        have hn3 : ∀ j, Φ' j → Φ0 j ∨ wc.heap.size ≤ j := fun j hj => (hn' j hj).elim (HN2.out j) (fun h => .inr (by have := HO2.out.grow.size; have := HB1.out.size; omega))
        gi_wp2
        refine bodyPost_ret (results_none rfl _ _ _) rfl ?_
        exact ⟨⟨_, rfl⟩, Φ', fun j hj => (hn3 j hj).imp id (fun h => by omega), HO1.out.trans ho3 (fun j h => .inl h), .inr ⟨_, HPR.out, hJ'⟩⟩
    · have hkn : k = ts.length := by omega
      subst hkn
      rw [List.take_length] at hJ2
      gi_wp2
      refine bodyPost_end (results_none rfl _ _ _) rfl ?_
      exact ⟨⟨_, rfl⟩, Φ, fun j hj => (hn2 j hj).imp id (fun h => by omega), HO1.out.trans ho2 (fun j h => .inl h), .inl hJ2⟩
end Go.Proofs.YteioacpfphigjaaGreat
end

section
namespace Go.Proofs.YteioacpfphigjaaGreat
open Go.RowKit Go.Shelf
attribute [local go_sem] Oper.semAt_some
set_option linter.unusedVariables false
set_option linter.unusedSimpArgs false

theorem enters_all : ∀ args w, (callFunc 64 args).run Tryz.prog w = .ok (.enter 64 args) w := enters_of Tryz.func64 (by kernel_rfl) rfl
/-- What All hands back. -/
theorem agenda_All (p : Value) (hp : ∃ q, p = .pointer q) (w : World) : Calls Tryz.prog 45 #[p] w fun e w' => e = .returned (.func (.func 64) #[] #[.pointer (some ⟨w.heap.size, 0, none⟩)]) ∧ w' = w.alloc (.cells #[p] 44) := by
  obtain ⟨q, rfl⟩ := hp
  go_enter Tryz.func45, Tryz.ntmps45
  go_wp2
  go_ret
  exact ⟨rfl, rfl⟩
theorem frame_eq {c : Code} {F : Fence} {n : Nat} {P : Program} {Q : Exit → Act → World → Prop} {a b : Act} {w : World} (e : a = b) (h : c.wpIn F n P Q b w) : c.wpIn F n P Q a w := e ▸ h
/-- The place of the task of a name, -1 if there is none. -/
def idxN (ts : List Tk) (name : Int) : Int := match ts.findIdx? (fun t => t.name == name) with
  | some i => (i : Int)
  | none => -1
theorem idxN_none {ts : List Tk} {name : Int} (h : ∀ t ∈ ts, t.name ≠ name) : idxN ts name = -1 := by
  unfold idxN
  have : ts.findIdx? (fun t => t.name == name) = none := by
    rw [List.findIdx?_eq_none_iff]
    intro t ht
    simpa using h t ht
  rw [this]
theorem idxN_at {ts p : List Tk} {t : Tk} {name : Int} (hp : (p ++ [t]) <+: ts) (ht : t.name = name) (h : ∀ u ∈ p, u.name ≠ name) : idxN ts name = (p.length : Int) := by
  obtain ⟨r, rfl⟩ := hp
  unfold idxN
  have h1 : p.findIdx? (fun t => t.name == name) = none := by
    rw [List.findIdx?_eq_none_iff]
    intro u hu
    simpa using h u hu
  have : (p ++ [t] ++ r).findIdx? (fun t => t.name == name) = some p.length := by
    rw [List.append_assoc, List.findIdx?_append, h1]
    simp [List.findIdx?_cons, ht]
  rw [this]
/-- What find's loop holds. -/
def FindI (N0 ib nb rb : Nat) (name : Int) (pre : List Tk) (Φ : FP) (W : World) : Prop :=
  (∀ k, ¬ Φ k) ∧ Boxed W ib 3 (.int .i64 (pre.length : Nat)) ∧ Boxed W nb 3 (.int .i64 name) ∧ Boxed W rb 3 (.int .i64 0) ∧ (∀ t ∈ pre, t.name ≠ name) ∧ N0 ≤ W.heap.size
def FindX (N0 rb : Nat) (name : Int) (c : Code) (pre : List Tk) (Φ : FP) (W : World) : Prop :=
  c = .ret ∧ (∀ k, ¬ Φ k) ∧ (∃ p t, pre = p ++ [t] ∧ t.name = name ∧ (∀ u ∈ p, u.name ≠ name) ∧ Boxed W rb 3 (.int .i64 (p.length : Nat))) ∧ N0 ≤ W.heap.size
theorem FindI.stab {N0 ib nb rb : Nat} {name : Int} (h1 : ib < N0) (h2 : nb < N0) (h3 : rb < N0) : Stab N0 (FindI N0 ib nb rb name) := by
  rintro pre Φ W ⟨a, b, c, d, e, f⟩
  exact ⟨fun k hk => absurd hk (a k), f, fun W' hg hk => ⟨a, (hk ib (.inl h1)).trans b, (hk nb (.inl h2)).trans c, (hk rb (.inl h3)).trans d, e, Nat.le_trans f hg.size⟩⟩
theorem FindX.stab {N0 rb : Nat} {name : Int} (h3 : rb < N0) (c : Code) : Stab N0 (FindX N0 rb name c) := by
  rintro pre Φ W ⟨a, b, ⟨p, t, c1, c2, c3, c4⟩, f⟩
  exact ⟨fun k hk => absurd hk (b k), f, fun W' hg hk => ⟨a, b, ⟨p, t, c1, c2, c3, (hk rb (.inl h3)).trans c4⟩, Nat.le_trans f hg.size⟩⟩

set_option maxHeartbeats 4000000 in
set_option maxRecDepth 100000 in
theorem agenda_find (g : Nat) (v : Value) (ts : List Tk) (name : Int) (w : World) (hg : w.heap[g]? = some (.cells #[v] 124 (0, 0))) (hr : RdT w v ts) (hl : ts.length ≤ 900) :
    Calls Tryz.prog 82 #[.pointer (some ⟨g, 0, none⟩), .int .i64 name] w fun e w' => e = .returned (.int .i64 (idxN ts name)) ∧ Below w.heap.size w w' := by
  refine (callsIn_wide (n := 2)).1 ?_
  have HG := Lib.hid hg
  have HR := Lib.hid hr
  have HL := Lib.hid hl
  clear hg hr hl
  refine callsIn_of_wp_marks Tryz.func82 rfl trivial ?_ rfl
  simp only [Tryz.ntmps82, List.size_toArray, List.length_cons, List.length_nil, Nat.reduceAdd, Nat.reduceSub, Array.replicate_succ, Array.replicate_zero, List.push_toArray, List.append_toArray, List.nil_append, List.cons_append]
  gi_wp2_with (first | (gi_at_call 45; refine (callsIn_wide.2 (agenda_All _ ⟨_, rfl⟩ _)).mono ?_; rintro e w1 ⟨rfl, hw1⟩) | (refine ⟨trivial, ?_⟩; gi_at_call 45; refine (callsIn_wide.2 (agenda_All _ ⟨_, rfl⟩ _)).mono ?_; rintro e w1 ⟨rfl, hw1⟩) | fail)
  rw [← hw1]
  obtain ⟨s, hs⟩ : ∃ s, s = w.heap.size := ⟨_, rfl⟩
  obtain ⟨rb, hrb⟩ : ∃ rb, rb = s + 1 := ⟨_, rfl⟩
  obtain ⟨ib, hib⟩ : ∃ ib, ib = rb + 1 := ⟨_, rfl⟩
  obtain ⟨ab, hab⟩ : ∃ ab, ab = ib + 1 := ⟨_, rfl⟩
  have hB : Below w.heap.size w w1 := by rw [hw1]; exact ((((Below.refl _ w).alloc (Nat.le_refl _) _).alloc (by simp) _).alloc (by simp; omega) _).alloc (by simp; omega) _
  have hsz : w1.heap.size = s + 4 := by rw [hw1, hs]; simp
  have x0 : Boxed w1 s 3 (.int .i64 name) := by rw [hw1, hs]; exact (((Boxed.new w _ _).alloc _).alloc _).alloc _
  have x1 : Boxed w1 rb 3 (.int .i64 0) := by
    have := Boxed.new (w.alloc (.cells #[.int .i64 name] 3)) 3 (.int .i64 0)
    rw [World.size_alloc] at this
    rw [hw1, hrb, hs]; exact (this.alloc _).alloc _
  have x2 : Boxed w1 ib 3 (.int .i64 0) := by
    have := Boxed.new ((w.alloc (.cells #[.int .i64 name] 3)).alloc (.cells #[.int .i64 0] 3)) 3 (.int .i64 0)
    rw [World.size_alloc, World.size_alloc] at this
    rw [hw1, hib, hrb, hs]; exact this.alloc _
  have x3 : Boxed w1 ab 44 (.pointer (some ⟨g, 0, none⟩)) := by
    have := Boxed.new (((w.alloc (.cells #[.int .i64 name] 3)).alloc (.cells #[.int .i64 0] 3)).alloc (.cells #[.int .i64 0] 3)) 44 (.pointer (some ⟨g, 0, none⟩))
    rw [World.size_alloc, World.size_alloc, World.size_alloc] at this
    rw [hw1, hab, hib, hrb, hs]; exact this
  rw [← hs, ← hrb, ← hib, ← hab]
  have hgl : g < w.heap.size := by
    by_cases h : g < w.heap.size
    · exact h
    · have := HG.out; rw [Array.getElem?_eq_none (by omega)] at this; cases this
  have hit := all_iter 0 ab g v ts w1 x3.cell ((hB.block g hgl).trans HG.out) (HR.out.below hB) HL.out (fun k => k < w1.heap.size) (by omega) (by omega) (fun a n c e hne => by
    have hr := HR.out.below hB
    rcases hr with ⟨h, -⟩ | ⟨b, off, cap, h, -, h3⟩
    · rw [h] at e; cases e
    · rw [h] at e
      injection e with e1
      injection e1 with e1
      rw [← e1]
      refine rangeAt_lt h3 (fun e0 => ?_)
      have := Tc_len ts
      rw [e0] at this
      have h0 := List.length_pos_iff.2 hne
      simp at this
      omega)
  have HX1 := Lib.hid x1
  have HBB := Lib.hid hB
  have HSW := Lib.hid hs
  have l0 : s < rb := by omega
  have l1 : rb < ib := by omega
  have l2 : ib < ab := by omega
  have l3 : ab < w1.heap.size := by omega
  clear x3 hw1 hs hrb hib hab hsz
  refine range_outerA (n := 0) (gf := 64) (lb := #[.pointer (some ⟨ab, 0, none⟩)]) rfl enters_all hit (Grow.refl _) (fun k hk => ⟨hk, rfl⟩) (fun _ => rfl)
    (fun k => k = ib ∨ k = rb) (by rintro k (rfl | rfl) <;> omega) (FindI w1.heap.size ib s rb name) (FindX w1.heap.size rb name) (FindI.stab (by omega) (by omega) (by omega)) (fun c => FindX.stab (by omega) c)
    ⟨fun _ h => h, x2, x0, x1, by simp, Nat.le_refl _⟩
    (fun x N => { tmps := #[.pointer (some ⟨g, 0, none⟩), .int .i64 name, undef, .pointer (some ⟨s, 0, none⟩), .pointer (some ⟨rb, 0, none⟩), .pointer (some ⟨ib, 0, none⟩), .pointer (some ⟨N, 0, none⟩), .pointer (some ⟨g, 0, none⟩), .func (.func 64) #[] #[.pointer (some ⟨ab, 0, none⟩)], .agg (tc x).toArray, undef, undef, undef, undef, undef, undef, undef], defers := [] })
    (fun x N W => W.heap[N]? = some (.cells (tc x).toArray 143 (0, 0))) (fun x N W W' h e => e.trans h) ?assign ?body ?done ?stop
  case assign =>
    intro l x W K hK
    refine frame_eq (b := { tmps := #[.pointer (some ⟨g, 0, none⟩), .int .i64 name, undef, .pointer (some ⟨s, 0, none⟩), .pointer (some ⟨rb, 0, none⟩), .pointer (some ⟨ib, 0, none⟩), undef, .pointer (some ⟨g, 0, none⟩), .func (.func 64) #[] #[.pointer (some ⟨ab, 0, none⟩)], .agg (tc x).toArray, undef, undef, undef, undef, undef, undef, undef], defers := [] }) (by simp) ?_
    gi_wp2_with (first
        | (refine wplIn_allocT rfl rfl ?_; intro C hC)
        | (refine wplIn_storeT (t := x) (C := C) _ _ rfl rfl rfl rfl (heap_alloc_new W _) hC ?_)
        | fail)
    refine hK _ ?_ (by simp) (setRow_heap _ _ _ _ _ _ (heap_alloc_new W _))
    exact ((Below.refl _ W).alloc (Nat.le_refl _) _).trans ⟨rfl, rfl, rfl, by simp, fun k hk => setRow_other _ _ k _ (by omega)⟩
  case body =>
    rintro l pre x Φ N W hpx ⟨hΦ, b1, b2, b3, hne, hz⟩ hl - - hlN hNW hAt
    have cN : W.cell? ⟨N, 0, none⟩ = some (.int .i64 x.name) := by rw [World.cell?, hAt]; rfl
    have c2 := b2.cell
    have c1 := b1.cell
    have f1 := b1.frozen
    have c3 := b3.cell
    have f3 := b3.frozen
    have hpl : pre.length ≤ 900 := by have h1 := hpx.length_le; have h2 := HL.out; simp at h1; omega
    have hpi : (pre.length : Int) ≤ 900 := by omega
    have HB1 := Lib.hid b1
    have HB2 := Lib.hid b2
    have HB3 := Lib.hid b3
    have HN := Lib.hid hne
    have HPh := Lib.hid hΦ
    clear b1 b2 b3 hne hAt hΦ
    have fin : ∀ (b : Nat) (u : Value) (R : List Tk → FP → World → Prop), (b = ib ∨ b = rb) → R (pre ++ [x]) (fun _ => False) (W.setCell ⟨b, 0, none⟩ u) → Leaves (fun k => k = ib ∨ k = rb) Φ W (fun Φ' W' => R (pre ++ [x]) Φ' W') (W.setCell ⟨b, 0, none⟩ u) := fun b u R hb hR =>
      ⟨_, fun k h => h.elim, ⟨⟨rfl, rfl, rfl, by simp [World.setCell]⟩, fun k hk h1 h2 => Below.heap_setCell _ _ _ k (fun e => h1 (by subst e; exact hb))⟩, hR⟩
    by_cases he : x.name = name
    · have he' : (x.name == name) = true := by simpa using he
      have hR : FindX w1.heap.size rb name .ret (pre ++ [x]) (fun _ => False) (W.setCell ⟨rb, 0, none⟩ (.int .i64 (pre.length : Nat))) :=
        ⟨rfl, fun _ h => h, ⟨pre, x, rfl, he, HN.out, HB3.out.set _⟩, by simpa [World.setCell] using hz⟩
      have HRR := Lib.hid (fin rb _ (FindX w1.heap.size rb name .ret) (.inr rfl) hR)
      clear fin hR
      gi_wp2
      exact HRR.out
    · have he' : (x.name == name) = false := by simpa using he
      have hR : FindI w1.heap.size ib s rb name (pre ++ [x]) (fun _ => False) (W.setCell ⟨ib, 0, none⟩ (.int .i64 ((pre.length : Nat) + 1))) :=
        ⟨fun _ h => h, by have := HB1.out.set (.int .i64 ((pre.length : Nat) + 1)); simpa using this, HB2.out.other (by omega) _, HB3.out.other (by omega) _, fun t ht => by
          rcases List.mem_append.1 ht with h | h
          · exact HN.out t h
          · rw [List.mem_singleton] at h; subst h; exact he, by simpa [World.setCell] using hz⟩
      have HRR := Lib.hid (fin ib _ (FindI w1.heap.size ib s rb name) (.inl rfl) hR)
      clear fin hR
      gi_wp2
      exact HRR.out
  case done =>
    rintro D Φ W3 ⟨hΦ, b1, b2, b3, hne, hz⟩ hon hD hnD hK
    have hsw := HSW.out
    have hidx := idxN_none hne
    have HI := Lib.hid hidx
    have c3 := b3.cell
    have f3 := b3.frozen
    have HB3 := Lib.hid b3
    have HON := Lib.hid hon
    have HKK := Lib.hid hK
    clear b1 b2 b3 hon hne hidx hK hsw
    gi_wp2
    obtain ⟨W5, hW5⟩ : ∃ W5, W5 = W3.setCell ⟨rb, 0, none⟩ (.int .i64 (-1)) := ⟨_, rfl⟩
    rw [← hW5]
    have hsame : ∀ k, k ≠ rb → W5.heap[k]? = W3.heap[k]? := fun k h1 => by rw [hW5]; exact Below.heap_setCell _ _ _ k h1
    have hx2 : Boxed W5 rb 3 (.int .i64 (-1)) := by rw [hW5]; exact HB3.out.set _
    have hgw : Grow W3 W5 := by rw [hW5]; exact ⟨rfl, rfl, rfl, by simp [World.setCell]⟩
    have hK5 : W5.heap[D]? = some (.deferred (some [])) := (hsame D (by omega)).trans HKK.out
    have hk2 : Boxed (W5.putObj D (.deferred none)) rb 3 (.int .i64 (-1)) := (put_other (by omega)).trans hx2
    have hcc2 := hk2.cell
    refine ⟨by simp, .inl ⟨_, _, rfl, run_takeDeferred hK5, ?_⟩⟩
    refine ⟨.int .i64 (-1), by simp [results, Tryz.results82, go_sem, hcc2], by rw [HI.out], ?_⟩
    have hg : Grow W3 (W5.putObj D (.deferred none)) := hgw.trans (put_grow _ _ _)
    have hO2 := HON.out
    have hw2 := HBB.out
    have hsw := HSW.out
    refine ⟨hg.os.trans (hO2.grow.os.trans hw2.os), hg.tape.trans (hO2.grow.tape.trans hw2.tape), hg.output.trans (hO2.grow.output.trans hw2.output), by have := hg.size; have := hO2.grow.size; have := hw2.size; omega, fun k hk => ?_⟩
    rw [put_other (by omega), hsame k (by omega), hO2.block k (by omega) (fun h => by omega) (fun h => h)]
    exact hw2.block k hk
  case stop =>
    rintro D Φ c pre W3 hpre ⟨rfl, hΦ, ⟨p, t, rfl, ht, hp, b3⟩, hz⟩ hon hD hnD hK
    have hidx := idxN_at hpre ht hp
    have HI := Lib.hid hidx
    have c3 := b3.cell
    have HB3 := Lib.hid b3
    have HON := Lib.hid hon
    have HKK := Lib.hid hK
    clear b3 hon hidx hK
    gi_wp2
    have hk2 : Boxed (W3.putObj D (.deferred none)) rb 3 (.int .i64 (p.length : Nat)) := (put_other (by omega)).trans HB3.out
    have hcc2 := hk2.cell
    refine ⟨by simp, .inl ⟨_, _, rfl, run_takeDeferred HKK.out, ?_⟩⟩
    refine ⟨.int .i64 (p.length : Nat), by simp [results, Tryz.results82, go_sem, hcc2], by rw [HI.out], ?_⟩
    have hg : Grow W3 (W3.putObj D (.deferred none)) := put_grow _ _ _
    have hO2 := HON.out
    have hw2 := HBB.out
    have hsw := HSW.out
    refine ⟨hg.os.trans (hO2.grow.os.trans hw2.os), hg.tape.trans (hO2.grow.tape.trans hw2.tape), hg.output.trans (hO2.grow.output.trans hw2.output), by have := hg.size; have := hO2.grow.size; have := hw2.size; omega, fun k hk => ?_⟩
    rw [put_other (by omega), hO2.block k (by omega) (fun h => by omega) (fun h => h)]
    exact hw2.block k hk
end Go.Proofs.YteioacpfphigjaaGreat
end

section
namespace Go.Proofs.YteioacpfphigjaaGreat
open Go.RowKit Go.Shelf
set_option linter.unusedVariables false
set_option linter.unusedSimpArgs false

def RTup (ts : List Tk) (t : Tk) (v : Value) : Prop := ∃ (i : Nat) (b : Bool), v = .tuple #[.int .i64 (i : Nat), .bool b] ∧ Found ts t i
def RIdx (ts : List Tk) (t : Tk) (v : Value) : Prop := ∃ i : Nat, v = .int .i64 (i : Nat) ∧ Found ts t i
def RBool (v : Value) : Prop := ∃ b : Bool, v = .bool b
theorem rtup_mk {ts : List Tk} {t : Tk} {i : Nat} (b : Bool) (h : Found ts t i) : RTup ts t (.tuple #[.int .i64 (i : Nat), .bool b]) := ⟨i, b, rfl, h⟩
theorem ridx_mk {ts : List Tk} {t : Tk} {i : Nat} (h : Found ts t i) : RIdx ts t (.int .i64 (i : Nat)) := ⟨i, rfl, h⟩
theorem rbool_mk (b : Bool) : RBool (.bool b) := ⟨b, rfl⟩
def loadTask (v : Value) : Sem Value := Instr.loadAt 143 v
theorem loadAt_task (v : Value) : Instr.loadAt 143 v = loadTask v := rfl
theorem fold_set : ∀ (l : List Value) (k : Nat) (C : Array Value), k + l.length ≤ C.size → (l.zipIdx k).foldl (fun cs (x : Value × Nat) => cs.setIfInBounds (0 + x.2) x.1) C = (C.toList.take k ++ l ++ C.toList.drop (k + l.length)).toArray
  | [], k, C, _ => by simp
  | u :: l, k, C, h => by
    simp only [List.zipIdx_cons, List.foldl_cons, Nat.zero_add]
    have h' : k + 1 + l.length ≤ C.size := by simp at h; omega
    have ih := fold_set l (k + 1) (C.setIfInBounds k u) (by simp; omega)
    simp only [Nat.zero_add] at ih
    rw [ih]
    apply congrArg List.toArray
    rw [Array.toList_setIfInBounds, List.length_cons]
    exact list_seg_step C.toList k u l (by simpa using h)
def buildTask (parts : Array (Nat × Value)) : Sem Value := Instr.buildSlice 62 1 parts
theorem buildSlice_task (parts : Array (Nat × Value)) : Instr.buildSlice 62 1 parts = buildTask parts := rfl
theorem run_buildTask (t : Tk) (w : World) : (buildTask #[(0, .agg (tc t).toArray)]).run Tryz.prog w = .ok (.slice (some ⟨w.heap.size, 0, none⟩) 1 1) (w.alloc (.cells (tc t).toArray 143)) := by
  obtain ⟨z, hz, hzs, hz1⟩ := zeroT
  obtain ⟨i0, hi, hz0⟩ := Option.bind_eq_some_iff.1 hz
  have hsz : i0.size = 36 := by
    have := sizeT
    rw [hi] at this
    simpa using this
  refine run_buildSlice w _ 143 1 _ _ i0 z Tryz.underlying62 hi hz0 (by rw [hsz]; decide) (by rw [hsz]; decide) ?_
  have hc : (Value.agg (tc t).toArray).cells = (tc t).toArray := rfl
  have h36 : (tc t).toArray.size = 36 := by simp [tc_len]
  simp only [Instr.fill, hc, hsz]
  rw [if_neg (by simp [tc_len, hsz])]
  have hf := fold_set (tc t) 0 ((Array.range (1 * 36)).map (z.cells[· % z.cells.size]!)) (by simp [tc_len])
  have e2 : (tc t).toArray.zipIdx.foldl (fun (cs : Array Value) (x : Value × Nat) => cs.setIfInBounds (0 + x.2) x.1) ((Array.range (1 * 36)).map (z.cells[· % z.cells.size]!)) = (tc t).toArray := by
    rw [← Array.foldl_toList]
    simp only [Array.toList_zipIdx]
    rw [hf]
    simp [tc_len]
  simpa [Instr.fill] using e2
attribute [local go_sem ↓] loadAt_task buildSlice_task
theorem run_loadTask {w : World} {b : Nat} {t : Tk} (h : w.rangeAt b 0 (tc t)) : (loadTask (.pointer (some ⟨b, 0, none⟩))).run Tryz.prog w = .ok (.agg (tc t).toArray) w :=
  run_loadAt_mid w b 0 143 (tc t) _ h Tryz.underlying143 rfl (by rw [tc_len]; exact sizeT)

/-- In order. -/
def Srt (ts : List Tk) : Prop := ts.Pairwise fun a b => cmpT a b < 0
def aheadB (t : Tk) (u : Tk) : Bool := decide (cmpT u t < 0)
/-- Put where it belongs. -/
def insP (ts : List Tk) (t : Tk) : List Tk := ts.takeWhile (aheadB t) ++ t :: ts.dropWhile (aheadB t)
theorem cmpI_lt {a b : Int} : cmpI a b < 0 ↔ a < b := by unfold cmpI; split <;> (try split) <;> omega
theorem cmpI_zero {a b : Int} : cmpI a b = 0 ↔ a = b := by unfold cmpI; split <;> (try split) <;> omega
theorem cmpT_lt {a b : Tk} : cmpT a b < 0 ↔ a.due < b.due ∨ (a.due = b.due ∧ (a.prio < b.prio ∨ (a.prio = b.prio ∧ a.name < b.name))) := by
  have h1 := @cmpI_lt a.due b.due
  have h2 := @cmpI_lt a.prio b.prio
  have h3 := @cmpI_lt a.name b.name
  have e1 := @cmpI_zero a.due b.due
  have e2 := @cmpI_zero a.prio b.prio
  unfold cmpT
  by_cases c1 : cmpI a.due b.due = 0
  · rw [if_neg (by simpa using c1)]
    by_cases c2 : cmpI a.prio b.prio = 0
    · rw [if_neg (by simpa using c2)]; have := e1.1 c1; have := e2.1 c2; omega
    · rw [if_pos c2]; have := e1.1 c1; have : ¬ a.prio = b.prio := fun h => c2 (e2.2 h); omega
  · rw [if_pos c1]; have : ¬ a.due = b.due := fun h => c1 (e1.2 h); omega
theorem cmpT_trans {a b c : Tk} (h1 : cmpT a b < 0) (h2 : cmpT b c < 0) : cmpT a c < 0 := by
  rw [cmpT_lt] at *; omega
theorem Srt.at {ts : List Tk} (h : Srt ts) {i j : Nat} (hij : i < j) (hj : j < ts.length) : cmpT (ts[i]'(by omega)) ts[j] < 0 :=
  List.pairwise_iff_getElem.1 h i j (by omega) hj hij
theorem found_insP {ts : List Tk} {t : Tk} {i : Nat} (hs : Srt ts) (h : Found ts t i) : insAt ts i t = insP ts t := by
  obtain ⟨h1, h2, h3⟩ := h
  have e1 : ts.takeWhile (aheadB t) = ts.take i ∧ ts.dropWhile (aheadB t) = ts.drop i := by
    have hall : ∀ u ∈ ts.take i, aheadB t u = true := by
      intro u hu
      obtain ⟨k, hk, rfl⟩ := List.mem_iff_getElem.1 hu
      rw [List.length_take] at hk
      simp only [List.getElem_take, aheadB, decide_eq_true_eq]
      have hl := h2 ⟨by omega, h1⟩
      by_cases e : k = i - 1
      · subst e; exact hl
      · exact cmpT_trans (hs.at (i := k) (j := i - 1) (by omega) (by omega)) hl
    have hts : ts = ts.take i ++ ts.drop i := (List.take_append_drop i ts).symm
    have hdr : ∀ u r, ts.drop i = u :: r → aheadB t u = false := by
      intro u r e
      have hi : i < ts.length := by
        by_cases hi : i < ts.length
        · exact hi
        · rw [List.drop_of_length_le (by omega)] at e; cases e
      rw [List.drop_eq_getElem_cons hi] at e
      injection e with e1 _
      subst e1
      have := h3 hi
      simp only [aheadB, decide_eq_false_iff_not]
      omega
    obtain ⟨A, hA⟩ : ∃ A, A = ts.take i := ⟨_, rfl⟩
    obtain ⟨D, hD⟩ : ∃ D, D = ts.drop i := ⟨_, rfl⟩
    rw [← hA] at hall hts ⊢
    rw [← hD] at hts hdr ⊢
    subst hts
    refine ⟨?_, ?_⟩
    · rw [List.takeWhile_append_of_pos hall]
      cases D with
      | nil => simp
      | cons u r => rw [List.takeWhile_cons_of_neg (by rw [hdr u r rfl]; simp)]; simp
    · rw [List.dropWhile_append_of_pos hall]
      cases D with
      | nil => simp
      | cons u r => rw [List.dropWhile_cons_of_neg (by rw [hdr u r rfl]; simp)]
  unfold insAt insP
  rw [e1.1, e1.2]
def BadT (t : Tk) : Prop := t.name < 0 ∨ t.due < 0 ∨ t.prio < 0
instance (t : Tk) : Decidable (BadT t) := by unfold BadT; infer_instance
def putE (ts : List Tk) (t : Tk) : Int := if BadT t then 1 else if 0 ≤ idxN ts t.name then 5 else if 12 ≤ ts.length then 3 else 0
def putL (ts : List Tk) (t : Tk) : List Tk := if putE ts t = 0 then insP ts t else ts
/-- What a call on an agenda leaves: its own blocks may have been written. -/
def Left2 (B g : Nat) (v : Value) (ts : List Tk) (w : World) (w' : World) : Prop := ∃ v', AgA B g v' ts w' ∧ Only (fun k => k = g ∨ v.ownBlock = some k) (fun _ => False) w w' ∧ Fresh w v v'
theorem AgA.later {B g : Nat} {v : Value} {ts : List Tk} {w w' : World} (h : AgA B g v ts w) (hb : Below w.heap.size w w') : AgA B g v ts w' := by
  have hg : g < w.heap.size := by
    by_cases hh : g < w.heap.size
    · exact hh
    · have := h.at_; rw [Array.getElem?_eq_none (by omega)] at this; cases this
  exact ⟨(hb.block g hg).trans h.at_, h.own.of (Nat.le_refl _) (fun k hk => hb.block k (h.own.block hk).2), h.ne, h.lo⟩
theorem Left2.same {B g : Nat} {v : Value} {ts : List Tk} {w w' : World} (h : AgA B g v ts w) (hb : Below w.heap.size w w') : Left2 B g v ts w w' :=
  ⟨v, h.later hb, Only.of_later hb, Fresh.same rfl⟩

theorem AgA.lt {B g : Nat} {v : Value} {ts : List Tk} {w : World} (h : AgA B g v ts w) : g < w.heap.size := by
  by_cases hh : g < w.heap.size
  · exact hh
  · have := h.at_; rw [Array.getElem?_eq_none (by omega)] at this; cases this
/-- The row that came back is laid into the agenda. -/
theorem left2_store {B g : Nat} {v : Value} {ts ts' : List Tk} {w wa wn : World} {ao : Option Addr} {m cap : Nat} (hA : AgA B g v ts w) (hb : Below w.heap.size w wa) (hg : wa.grownBy wn v.ownBlock) (hO : OwnT B (.slice ao m cap) ts' wn)
    (hA9 : wn.heap[g]? = some (.cells #[v] 124 (0, 0))) (hfr : Fresh wa v (.slice ao m cap)) : Left2 B g v ts' w (wn.setCell ⟨g, 0, none⟩ (.slice ao m cap)) := by
  have hgl := hA.lt
  have hne : (Value.slice ao m cap).ownBlock ≠ some g := by
    intro e
    rcases hO.2 with ⟨h, -⟩ | ⟨k, c, cur, h, -, h2, -⟩
    · rw [h] at e; cases e
    · rw [h] at e
      have e' : k = g := by simpa [Value.ownBlock] using e
      rw [e', hA9] at h2
      simp only [Option.some.injEq, Obj.cells.injEq] at h2
      exact absurd h2.2.1 (by decide)
  refine ⟨.slice ao m cap, ⟨?_, hO.of (Nat.le_refl _) (fun k hk => heap_setCell_other _ _ _ _ (fun e => hne (by rw [hk, e]))), hne, hA.lo⟩, ⟨⟨?_, ?_, ?_, ?_⟩, fun k hk h1 _ => ?_⟩, fun k hk => (hfr k hk).imp id (fun h => Nat.le_trans hb.size h)⟩
  · rw [heap_setCell_same _ _ _ _ _ _ hA9]; rfl
  · exact hg.os.trans hb.os
  · exact hg.tape.trans hb.tape
  · exact hg.output.trans hb.output
  · have := hg.size; have := hb.size; simp [World.setCell]; omega
  · rw [heap_setCell_other _ _ _ _ (fun e => h1 (.inl e)), hg.block k (Nat.lt_of_lt_of_le hk hb.size) (fun e => h1 (.inr e.symm))]
    exact hb.block k hk

end Go.Proofs.YteioacpfphigjaaGreat
end

section
namespace Go.Proofs.YteioacpfphigjaaGreat
open Go.RowKit Go.Shelf
set_option linter.unusedVariables false
set_option linter.unusedSimpArgs false

theorem agenda_New (w : World) : Calls Tryz.prog 12 #[] w fun e w' => e = .returned (.pointer (some ⟨w.heap.size, 0, none⟩)) ∧ w' = w.alloc (.cells #[.slice none 0 0] 124) := by
  go_enter Tryz.func12, Tryz.ntmps12
  go_wp2
  go_ret
  exact ⟨rfl, rfl⟩
theorem AgA.new (w : World) : AgA w.heap.size w.heap.size (.slice none 0 0) [] (w.alloc (.cells #[.slice none 0 0] 124)) :=
  ⟨heap_alloc_new w _, OwnT.nil _ _, by simp [Value.ownBlock], Nat.le_refl _⟩
/-- What is left when the task of a name is taken away. -/
def delN (ts : List Tk) (name : Int) : List Tk := if 0 ≤ idxN ts name then delAt ts (idxN ts name).toNat ((idxN ts name).toNat + 1) else ts
theorem idxN_lt {ts : List Tk} {name : Int} : idxN ts name < ts.length ∧ -1 ≤ idxN ts name := by
  unfold idxN
  split
  · rename_i i h
    have := (List.findIdx?_eq_some_iff_getElem.1 h).1
    omega
  · omega
end Go.Proofs.YteioacpfphigjaaGreat
end

section
namespace Go.Proofs.YteioacpfphigjaaGreat
open Go.RowKit Go.Shelf
attribute [local go_sem] Oper.semAt_some
set_option linter.unusedVariables false
set_option linter.unusedSimpArgs false

section
variable {F : Fence} {nF : Nat} {w : World} {ops : Array Oper} {rest : List Oper} {o : Oper} {a : Act} {Q : Exit → Act → World → Prop}
theorem wplIn_appT_at {s x : Operand} {B ub : Nat} {v : Value} {xs : List Tk} {t : Tk} (hgd : o.guard = none) (ho : o.op = .call { callee := .builtin .append, args := #[s, x], argTypes := #[62, 62] }) (hs : a.eval s = v) (hx : a.eval x = .slice (some ⟨ub, 0, none⟩) 1 1)
    (hown : OwnT B v xs w) (hu : w.heap[ub]? = some (.cells (tc t).toArray 143 (0, 0))) (hlen : xs.length ≤ 900) (hB : B ≤ w.heap.size)
    (h : ∀ v' w', OwnT B v' (xs ++ [t]) w' → w.grownBy w' v.ownBlock → (v'.ownBlock = v.ownBlock ∨ v'.ownBlock = some w.heap.size) → wpListIn F nF Tryz.prog ops Q rest (a.put o.dst v') w') : wpListIn F nF Tryz.prog ops Q (o :: rest) a w := by
  obtain ⟨i0, hi, hz⟩ := Option.map_eq_some_iff.1 infoT
  simp only [Prod.mk.injEq] at hz
  obtain ⟨hz0, hz1, hz2⟩ := hz
  obtain ⟨z, hzz, hzs⟩ := Option.map_eq_some_iff.1 hz0
  refine wpListIn_append_own_at _ hgd s x _ ho B 143 i0 z 36 64 Tryz.underlying62 hi hzz hz1 hz2 hzs (by decide) v _ _ hs hown ⟨ub, 0, none⟩ 1 1 (tc t) hx (by rw [tc_len])
    (fun j u hj => by rw [Addr.add_mid]; exact rangeAt_box hu j u hj) (tc_one t) (by unfold maxLen; omega) (by omega) hB ?_
  intro v' w' h1 h2 _ h4
  refine h v' w' ?_ h2 h4
  unfold OwnT
  rw [Tc_append, Tc_one, List.length_append]
  exact h1
theorem wplIn_buildT {t : Tk} {x : Operand} (hgd : o.guard = none) (ho : o.op = .buildSlice 62 1 #[(0, x)]) (hx : a.eval x = .agg (tc t).toArray)
    (h : wpListIn F nF Tryz.prog ops Q rest (a.put o.dst (.slice (some ⟨w.heap.size, 0, none⟩) 1 1)) (w.alloc (.cells (tc t).toArray 143))) : wpListIn F nF Tryz.prog ops Q (o :: rest) a w := by
  refine wpListIn_plain hgd fun K hK => ?_
  unfold Oper.wpIn
  refine ⟨by simp [Oper.about, ho], ?_⟩
  rw [Oper.semAt_plain F _ _ (by rw [ho]; intro c hc'; cases hc')]
  unfold execOp
  have hr : (Instr.buildSlice 62 1 #[(0, Value.agg (tc t).toArray)]).run Tryz.prog w = _ := run_buildTask t w
  simp only [ho, List.map_toArray, List.map_cons, List.map_nil, hx, Sem.run_bind, Sem.run_pure, hr, Result.andThen_ok]
  exact hK _ _ h
end
/-- What is due. -/
def dueL : List Tk → Int → Int → List Tk
  | [], _, _ => []
  | t :: ts, now, most => if t.due ≤ now ∧ 0 < most then t :: dueL ts now (most - 1) else []
theorem dueL_all : ∀ {ts : List Tk} {now most : Int}, (∀ t ∈ ts, t.due ≤ now) → (ts = [] ∨ (ts.length : Int) ≤ most) → dueL ts now most = ts
  | [], _, _, _, _ => rfl
  | t :: ts, now, most, h, hm => by
    have hl : ((t :: ts).length : Int) ≤ most := hm.resolve_left (by simp)
    simp only [List.length_cons] at hl
    unfold dueL
    rw [if_pos ⟨h t (by simp), by omega⟩, dueL_all (fun u hu => h u (by simp [hu])) (.inr (by omega))]
theorem dueL_stop : ∀ {pre ts : List Tk} {x : Tk} {now most : Int}, (pre ++ [x]) <+: ts → (∀ t ∈ pre, t.due ≤ now) → (pre = [] ∨ (pre.length : Int) ≤ most) → (now < x.due ∨ most ≤ (pre.length : Int)) → dueL ts now most = pre
  | [], ts, x, now, most, ⟨r, hr⟩, _, _, hx => by
    subst hr
    simp only [List.nil_append, List.cons_append, dueL]
    rw [if_neg (by simp at hx; omega)]
  | t :: pre, ts, x, now, most, ⟨r, hr⟩, h, hm, hx => by
    subst hr
    have hl : ((t :: pre).length : Int) ≤ most := hm.resolve_left (by simp)
    simp only [List.length_cons] at hl hx
    simp only [List.cons_append, dueL]
    rw [if_pos ⟨h t (by simp), by omega⟩]
    congr 1
    exact dueL_stop ⟨r, rfl⟩ (fun u hu => h u (by simp [hu])) (.inr (by omega)) (hx.imp id (fun h => by omega))
theorem dueL_len : ∀ (ts : List Tk) (now most : Int), dueL ts now most = ts.take (dueL ts now most).length
  | [], _, _ => rfl
  | t :: ts, now, most => by
    unfold dueL
    split
    · have := dueL_len ts now (most - 1)
      simp only [List.length_cons, List.take_succ_cons]
      rw [← this]
    · rfl
theorem dueL_le (ts : List Tk) (now most : Int) : (dueL ts now most).length ≤ ts.length := by
  have := congrArg List.length (dueL_len ts now most)
  rw [List.length_take] at this
  omega
/-- What Due's loop holds. -/
structure DueC (N0 db nb mb : Nat) (now most : Int) (pre : List Tk) (Φ : FP) (W : World) (v : Value) : Prop where
  bx : Boxed W db 62 v
  own : OwnT N0 v pre W
  iff : ∀ k, Φ k ↔ v.ownBlock = some k
  bn : Boxed W nb 3 (.int .i64 now)
  bm : Boxed W mb 3 (.int .i64 most)
  due : ∀ t ∈ pre, t.due ≤ now
  cnt : pre = [] ∨ (pre.length : Int) ≤ most
  sz : N0 ≤ W.heap.size
def DueI (N0 db nb mb : Nat) (now most : Int) (pre : List Tk) (Φ : FP) (W : World) : Prop := ∃ v, DueC N0 db nb mb now most pre Φ W v
def DueX (N0 db nb mb : Nat) (now most : Int) (c : Code) (pre' : List Tk) (Φ : FP) (W : World) : Prop :=
  c = .exit 0 ∧ ∃ pre x, pre' = pre ++ [x] ∧ (now < x.due ∨ most ≤ (pre.length : Int)) ∧ DueI N0 db nb mb now most pre Φ W
theorem DueC.keep {N0 db nb mb : Nat} {now most : Int} {pre : List Tk} {Φ : FP} {W W' : World} {v : Value} (h : DueC N0 db nb mb now most pre Φ W v) (h1 : db < N0) (h2 : nb < N0) (h3 : mb < N0) (hs : W.heap.size ≤ W'.heap.size) (hk : ∀ k, k < N0 ∨ Φ k → W'.heap[k]? = W.heap[k]?) : DueC N0 db nb mb now most pre Φ W' v :=
  ⟨(hk db (.inl h1)).trans h.bx, h.own.of (Nat.le_refl _) (fun k e => hk k (.inr ((h.iff k).2 e))), h.iff, (hk nb (.inl h2)).trans h.bn, (hk mb (.inl h3)).trans h.bm, h.due, h.cnt, Nat.le_trans h.sz hs⟩
theorem DueI.stab {N0 db nb mb : Nat} {now most : Int} (h1 : db < N0) (h2 : nb < N0) (h3 : mb < N0) : Stab N0 (DueI N0 db nb mb now most) := by
  rintro pre Φ W ⟨v, h⟩
  exact ⟨fun k hk => h.own.block ((h.iff k).1 hk), h.sz, fun W' hg hk => ⟨v, h.keep h1 h2 h3 hg.size hk⟩⟩
theorem DueX.stab {N0 db nb mb : Nat} {now most : Int} (h1 : db < N0) (h2 : nb < N0) (h3 : mb < N0) (c : Code) : Stab N0 (DueX N0 db nb mb now most c) := by
  rintro pre' Φ W ⟨e, pre, x, e2, hx, v, h⟩
  exact ⟨fun k hk => h.own.block ((h.iff k).1 hk), h.sz, fun W' hg hk => ⟨e, pre, x, e2, hx, v, h.keep h1 h2 h3 hg.size hk⟩⟩

theorem region_calmT {n : Nat} {P : Program} {c : Code} {K : Act → World → Prop} {Q : Exit → Act → World → Prop} {a : Act} {w : World} (h : c.wp P (Exit.then K (fun _ _ _ => False)) a w) : c.wpIn Fence.wide n P (Exit.then K Q) a w :=
  wpIn_mono (wpIn_wide.2 h) (fun e a w hq => by cases e <;> first | exact hq | exact hq.elim)
/-- What Due leaves, behind its loop and what may have been taken away. -/
theorem due_post {B g db nb mb D : Nat} {now most : Int} {v v1 : Value} {ts ts' L : List Tk} {Φ : FP} {w w1 W3 W5 : World} (hA : AgA B g v ts w) (hb : Below w.heap.size w w1) (hdb : w.heap.size ≤ db) (hdb2 : db < w1.heap.size) (hon : Only (fun k => k = db) (fun _ => False) w1 W3) (hI : DueC w1.heap.size db nb mb now most L Φ W3 v1) (hD : w1.heap.size ≤ D) (hnD : ¬ Φ D) (hK : W3.heap[D]? = some (.deferred (some [])))
    (h2 : Left2 B g v ts' W3 W5) : W5.heap[D]? = some (.deferred (some [])) ∧ OwnT w.heap.size v1 L (W5.putObj D (.deferred none)) ∧ Left2 B g v ts' w (W5.putObj D (.deferred none)) := by
  obtain ⟨v2, hA5, ho, hfr⟩ := h2
  have hgl := hA.lt
  have hs1 := hb.size
  have hs3 := hon.grow.size
  have hvl : ∀ k, v.ownBlock = some k → k < w.heap.size := fun k hk => (hA.own.block hk).2
  have hDl : D < W3.heap.size := (Array.getElem?_eq_some_iff.1 hK).1
  have hK5 : W5.heap[D]? = some (.deferred (some [])) := (ho.block D hDl (by rintro (h | h); omega; have := hvl D h; omega) (fun h => h)).trans hK
  refine ⟨hK5, hI.own.of (by omega) (fun k hk => ?_), v2, ⟨(put_other (by omega)).trans hA5.at_, hA5.own.of (Nat.le_refl _) (fun k hk => put_other (fun e => ?_)), hA5.ne, hA5.lo⟩, ⟨?_, fun k hk h1 _ => ?_⟩, fun k hk => (hfr k hk).imp id (fun h => by omega)⟩
  · have h1 := hI.own.block hk
    have hkD : k ≠ D := fun e => hnD (by rw [← e]; exact (hI.iff k).2 hk)
    exact (put_other hkD).trans (ho.block k h1.2 (by rintro (h | h); omega; have := hvl k h; omega) (fun h => h))
  · subst e
    rcases hA5.own.2 with ⟨h, -⟩ | ⟨j, c, cur, h, -, h3, -⟩
    · rw [h] at hk; cases hk
    · rw [h] at hk
      have e' : j = k := by simpa [Value.ownBlock] using hk
      rw [e', hK5] at h3
      cases h3
  · exact (((Grow.of_below hb).trans hon.grow).trans ho.grow).trans (put_grow _ _ _)
  · rw [put_other (by omega), ho.block k (by omega) h1 (fun h => h), hon.block k (by omega) (by omega) (fun h => h)]
    exact hb.block k hk

set_option maxHeartbeats 8000000 in
set_option maxRecDepth 100000 in
theorem agenda_Due (B g : Nat) (v : Value) (ts : List Tk) (now most : Int) (w : World) (hA : AgA B g v ts w) (hl : ts.length ≤ 12) (hB : B ≤ w.heap.size) :
    Calls Tryz.prog 35 #[.pointer (some ⟨g, 0, none⟩), .int .i64 now, .int .i64 most] w fun e w' => ∃ v', e = .returned v' ∧ OwnT w.heap.size v' (dueL ts now most) w' ∧ Left2 B g v (ts.drop (dueL ts now most).length) w w' := by
  refine (callsIn_wide (n := 2)).1 ?_
  obtain ⟨ao, cap, rfl⟩ := hA.own.reads.lenOf
  obtain ⟨n, hn⟩ : ∃ n, n = ts.length := ⟨_, rfl⟩
  rw [← hn] at hA ⊢
  have HN := Lib.hid hn
  clear hn
  have HA := Lib.hid hA
  have HL := Lib.hid hl
  have HBZ := Lib.hid hB
  clear hA hl hB
  refine callsIn_of_wp_marks Tryz.func35 rfl trivial ?_ rfl
  simp only [Tryz.ntmps35, List.size_toArray, List.length_cons, List.length_nil, Nat.reduceAdd, Nat.reduceSub, Array.replicate_succ, Array.replicate_zero, List.push_toArray, List.append_toArray, List.nil_append, List.cons_append]
  gi_wp2_with (first | (gi_at_call 45; refine (callsIn_wide.2 (agenda_All _ ⟨_, rfl⟩ _)).mono ?_; rintro e w1 ⟨rfl, hw1⟩) | (refine ⟨trivial, ?_⟩; gi_at_call 45; refine (callsIn_wide.2 (agenda_All _ ⟨_, rfl⟩ _)).mono ?_; rintro e w1 ⟨rfl, hw1⟩) | fail)
  rw [← hw1]
  obtain ⟨nb, hnb⟩ : ∃ nb, nb = w.heap.size := ⟨_, rfl⟩
  obtain ⟨mb, hmb⟩ : ∃ mb, mb = nb + 1 := ⟨_, rfl⟩
  obtain ⟨db, hdb⟩ : ∃ db, db = mb + 1 := ⟨_, rfl⟩
  obtain ⟨ab, hab⟩ : ∃ ab, ab = db + 1 := ⟨_, rfl⟩
  have hB : Below w.heap.size w w1 := by rw [hw1]; exact ((((Below.refl _ w).alloc (Nat.le_refl _) _).alloc (by simp) _).alloc (by simp; omega) _).alloc (by simp; omega) _
  have hsz : w1.heap.size = nb + 4 := by rw [hw1, hnb]; simp
  have x0 : Boxed w1 nb 3 (.int .i64 now) := by rw [hw1, hnb]; exact (((Boxed.new w _ _).alloc _).alloc _).alloc _
  have x1 : Boxed w1 mb 3 (.int .i64 most) := by
    have := Boxed.new (w.alloc (.cells #[.int .i64 now] 3)) 3 (.int .i64 most)
    rw [World.size_alloc] at this
    rw [hw1, hmb, hnb]; exact (this.alloc _).alloc _
  have x2 : Boxed w1 db 62 (.slice none 0 0) := by
    have := Boxed.new ((w.alloc (.cells #[.int .i64 now] 3)).alloc (.cells #[.int .i64 most] 3)) 62 (.slice none 0 0)
    rw [World.size_alloc, World.size_alloc] at this
    rw [hw1, hdb, hmb, hnb]; exact this.alloc _
  have x3 : Boxed w1 ab 44 (.pointer (some ⟨g, 0, none⟩)) := by
    have := Boxed.new (((w.alloc (.cells #[.int .i64 now] 3)).alloc (.cells #[.int .i64 most] 3)).alloc (.cells #[.slice none 0 0] 62)) 44 (.pointer (some ⟨g, 0, none⟩))
    rw [World.size_alloc, World.size_alloc, World.size_alloc] at this
    rw [hw1, hab, hdb, hmb, hnb]; exact this
  rw [← hnb, ← hmb, ← hdb, ← hab]
  have hA1 := HA.out.later hB
  have hit := all_iter 0 ab g (.slice ao n cap) ts w1 x3.cell hA1.at_ hA1.own.reads (by have := HL.out; omega) (fun k => k < w1.heap.size) (by omega) hA1.lt (fun a n0 c e hne => by
    have hk : (Value.slice ao n cap).ownBlock = some a.block := by rw [e]; rfl
    exact (hA1.own.block hk).2)
  have HA1 := Lib.hid hA1
  have HB1 := Lib.hid hB
  have HX2 := Lib.hid x2
  have HNB := Lib.hid hnb
  have l0 : nb < mb := by omega
  have l1 : mb < db := by omega
  have l2 : db < ab := by omega
  have l3 : ab < w1.heap.size := by omega
  have l4 : w.heap.size ≤ nb := by omega
  clear x3 hw1 hmb hdb hab hsz hA1 hB hnb
  refine range_outerA (n := 0) (gf := 64) (lb := #[.pointer (some ⟨ab, 0, none⟩)]) rfl enters_all hit (Grow.refl _) (fun k hk => ⟨hk, rfl⟩) (fun _ => rfl)
    (fun k => k = db) (by rintro k rfl; omega) (DueI w1.heap.size db nb mb now most) (DueX w1.heap.size db nb mb now most) (DueI.stab (by omega) (by omega) (by omega)) (fun c => DueX.stab (by omega) (by omega) (by omega) c)
    ⟨_, x2, OwnT.nil _ _, fun k => ⟨fun h => h.elim, fun h => by cases h⟩, x0, x1, by simp, .inl rfl, Nat.le_refl _⟩
    (fun x N => { tmps := #[.pointer (some ⟨g, 0, none⟩), .int .i64 now, .int .i64 most, undef, .pointer (some ⟨nb, 0, none⟩), .pointer (some ⟨mb, 0, none⟩), .slice none 0 0, .pointer (some ⟨db, 0, none⟩), .pointer (some ⟨N, 0, none⟩), .pointer (some ⟨g, 0, none⟩), .func (.func 64) #[] #[.pointer (some ⟨ab, 0, none⟩)], .agg (tc x).toArray, undef, undef, undef, undef, undef, undef, undef, undef, undef, undef, undef, undef, undef, undef, undef, undef, undef, undef, undef, undef, undef, undef, undef, undef, undef, undef, undef, undef], defers := [] })
    (fun x N W => W.heap[N]? = some (.cells (tc x).toArray 143 (0, 0))) (fun x N W W' h e => e.trans h) ?assign ?body ?done ?stop
  case assign =>
    intro l x W K hK
    refine frame_eq (b := { tmps := #[.pointer (some ⟨g, 0, none⟩), .int .i64 now, .int .i64 most, undef, .pointer (some ⟨nb, 0, none⟩), .pointer (some ⟨mb, 0, none⟩), .slice none 0 0, .pointer (some ⟨db, 0, none⟩), undef, .pointer (some ⟨g, 0, none⟩), .func (.func 64) #[] #[.pointer (some ⟨ab, 0, none⟩)], .agg (tc x).toArray, undef, undef, undef, undef, undef, undef, undef, undef, undef, undef, undef, undef, undef, undef, undef, undef, undef, undef, undef, undef, undef, undef, undef, undef, undef, undef, undef, undef], defers := [] }) (by simp) ?_
    gi_wp2_with (first
        | (refine wplIn_allocT rfl rfl ?_; intro C hC)
        | (refine wplIn_storeT (t := x) (C := C) _ _ rfl rfl rfl rfl (heap_alloc_new W _) hC ?_)
        | fail)
    refine hK _ ?_ (by simp) (setRow_heap _ _ _ _ _ _ (heap_alloc_new W _))
    exact ((Below.refl _ W).alloc (Nat.le_refl _) _).trans ⟨rfl, rfl, rfl, by simp, fun k hk => setRow_other _ _ k _ (by omega)⟩
  case body =>
    rintro l pre x Φ N W hpx ⟨v1, hI⟩ hl hΦ - hlN hNW hAt
    have hpl : pre.length ≤ 12 := by have h1 := hpx.length_le; have h2 := HL.out; simp at h1; omega
    obtain ⟨ao1, cap1, rfl⟩ := hI.own.reads.lenOf
    have cD : W.cell? ⟨N, 1, none⟩ = some (.int .i64 x.due) := by rw [World.cell?, hAt]; rfl
    have c0 := hI.bx.cell
    have f0 := hI.bx.frozen
    have c1 := hI.bn.cell
    have c2 := hI.bm.cell
    have hpi : (pre.length : Int) ≤ 12 := by omega
    have HI := Lib.hid hI
    have HAT := Lib.hid hAt
    have HPX := Lib.hid hpx
    have HPH := Lib.hid hΦ
    clear hI hAt hpx hΦ
    have stop : (now < x.due ∨ most ≤ (pre.length : Int)) → bodyI (fun k => k = db) Φ (DueI w1.heap.size db nb mb now most) (DueX w1.heap.size db nb mb now most) (pre ++ [x]) W (.exit 0) { tmps := #[], defers := [] } W := fun h =>
      ⟨Φ, fun k hk => .inl hk, Only.refl _ _ _, rfl, pre, x, rfl, h, _, HI.out⟩
    have HST := Lib.hid stop
    clear stop
    by_cases g1 : now < x.due
    · gi_wp2
      exact HST.out (.inl g1)
    by_cases g2 : most ≤ (pre.length : Int)
    · gi_wp2
      exact HST.out (.inr g2)
    have hdl : db < W.heap.size := by have := HI.out.sz; omega
    have hown : OwnT w1.heap.size (.slice ao1 pre.length cap1) pre (W.alloc (.cells (tc x).toArray 143)) := HI.out.own.of (Nat.le_refl _) (fun k hk => Below.heap_alloc _ _ _ (HI.out.own.block hk).2)
    have HOW := Lib.hid hown
    clear hown
    gi_wp2_with (first
      | (refine wplIn_loadT (t := x) _ rfl rfl rfl (rangeAt_box HAT.out) ?_)
      | (refine wplIn_buildT (t := x) rfl rfl rfl ?_)
      | (gi_at_builtin; refine wplIn_appT_at (B := w1.heap.size) (ub := W.heap.size) (v := .slice ao1 pre.length cap1) (xs := pre) (t := x) rfl rfl rfl rfl HOW.out (heap_alloc_new W _) (by omega) (by have := HI.out.sz; simp; omega) ?_; intro v' w3 hO hg3 hat3; have hbx : Boxed w3 db 62 (.slice ao1 pre.length cap1) := (hg3.block db (by simp; omega) (fun e => by have := (HI.out.own.block e.symm).1; omega)).trans ((Below.heap_alloc _ _ _ hdl).trans HI.out.bx); obtain ⟨ao2, cap2, hv2⟩ := hO.reads.lenOf; rw [show (pre ++ [x]).length = pre.length + 1 by simp] at hv2; subst hv2; have c3 := hbx.cell; have f3 := hbx.frozen; have HO := Lib.hid hO; have HG3 := Lib.hid hg3; have HAT3 := Lib.hid hat3; have HBX := Lib.hid hbx; clear hO hg3 hat3 hbx)
      | fail)
    obtain ⟨W4, hW4⟩ : ∃ W4, W4 = w3.setCell ⟨db, 0, none⟩ (.slice ao2 (pre.length + 1) cap2) := ⟨_, rfl⟩
    rw [← hW4]
    have hg3 := HG3.out
    have hs3 : W.heap.size + 1 ≤ w3.heap.size := by have := hg3.size; simpa using this
    have hkeep : ∀ k, k ≠ db → W4.heap[k]? = w3.heap[k]? := fun k h => by rw [hW4]; exact heap_setCell_other _ _ _ _ h
    have hs4 : W4.heap.size = w3.heap.size := by rw [hW4]; simp [World.setCell]
    have hOb : ∀ k, (Value.slice ao2 (pre.length + 1) cap2).ownBlock = some k → w1.heap.size ≤ k ∧ k < w3.heap.size := fun k hk => HO.out.block hk
    have hold : ∀ k, k < W.heap.size → k ≠ db → ¬ Φ k → W4.heap[k]? = W.heap[k]? := fun k hk h1 h2 => by
      rw [hkeep k h1, hg3.block k (by simp; omega) (fun e => h2 ((HI.out.iff k).2 e.symm))]
      exact Below.heap_alloc _ _ _ hk
    have hnΦ : ∀ k, k < w1.heap.size → ¬ Φ k := fun k hk h => by have := HPH.out k h; omega
    refine ⟨fun k => (Value.slice ao2 (pre.length + 1) cap2).ownBlock = some k, fun k hk => ?_, ⟨⟨?_, ?_, ?_, by omega⟩, fun k hk h1 h2 => hold k hk h1 h2⟩, .slice ao2 (pre.length + 1) cap2, ?_⟩
    · rcases HAT3.out with h | h
      · exact .inl ((HI.out.iff k).2 (by rw [← h]; exact hk))
      · rw [hk] at h
        injection h with h
        exact .inr (by rw [h]; simp)
    · rw [hW4]; exact hg3.os
    · rw [hW4]; exact hg3.tape
    · rw [hW4]; exact hg3.output
    · refine ⟨by rw [hW4]; exact HBX.out.set _, HO.out.of (Nat.le_refl _) (fun k hk => hkeep k (by have := (hOb k hk).1; omega)), fun k => Iff.rfl, (hold nb (by omega) (by omega) (hnΦ nb (by omega))).trans HI.out.bn, (hold mb (by omega) (by omega) (hnΦ mb (by omega))).trans HI.out.bm, fun t ht => ?_, .inr ?_, by omega⟩
      · rcases List.mem_append.1 ht with h | h
        · exact HI.out.due t h
        · rw [List.mem_singleton] at h; subst h; omega
      · simp only [List.length_append, List.length_cons, List.length_nil]; omega
  case done =>
    rintro D Φ W3 ⟨v1, hI⟩ hon hD hnD hK
    have hd : dueL ts now most = ts := dueL_all hI.due hI.cnt
    have hA3 : AgA B g (.slice ao n cap) ts W3 := by
      have h1 := HA1.out
      have hgl := HA.out.lt
      exact ⟨(hon.block g h1.lt (by omega) (fun h => h)).trans h1.at_, h1.own.of (Nat.le_refl _) (fun k hk => hon.block k (h1.own.block hk).2 (by have := (HA.out.own.block hk).2; omega) (fun h => h)), h1.ne, h1.lo⟩
    obtain ⟨ao1, cap1, rfl⟩ := hI.own.reads.lenOf
    obtain ⟨d, hdd⟩ : ∃ d, d = (ts).length := ⟨_, rfl⟩
    rw [← hdd] at hI
    have c0 := hI.bx.cell
    have cg : W3.cell? ⟨g, 0, none⟩ = some (.slice ao n cap) := by rw [World.cell?, hA3.at_]; rfl
    have hdn : d ≤ ts.length := by have h1 := dueL_le ts now most; rw [hd] at h1; omega
    have HD := Lib.hid hd
    have HDD := Lib.hid hdd
    have HI := Lib.hid hI
    have HON := Lib.hid hon
    have HA3 := Lib.hid hA3
    have HK := Lib.hid hK
    have HDN := Lib.hid hdn
    clear hI hon hA3 hK hd hdd hdn
    by_cases hz : d = 0
    · have hz' : ((0 : Int) < (d : Int)) = False := by simp; omega
      have h2 : Left2 B g (.slice ao n cap) (ts.drop (dueL ts now most).length) W3 W3 := by
        rw [HD.out, ← HDD.out, hz, List.drop_zero]
        exact Left2.same HA3.out (Below.refl _ _)
      obtain ⟨k5, o5, l5⟩ := due_post (db := db) HA.out HB1.out (by omega) (by omega) HON.out HI.out hD hnD HK.out h2
      have K5 := Lib.hid k5
      have O5 := Lib.hid o5
      have L5 := Lib.hid l5
      clear k5 o5 l5 h2
      subst hz
      gi_wp2
      refine ⟨by simp, .inl ⟨_, _, rfl, run_takeDeferred K5.out, ?_⟩⟩
      exact ⟨.slice ao1 0 cap1, by simp [results, Tryz.results35, go_sem], _, rfl, by rw [HD.out]; exact O5.out, L5.out⟩
    · have hz' : (0 : Int) < (d : Int) := by omega
      have hAd := HA3.out.later (show Below W3.heap.size W3 W3.drew from (Below.refl _ W3).drew)
      obtain ⟨m, hm⟩ : ∃ m, m = (delAt ts 0 d).length := ⟨_, rfl⟩
      have HM := Lib.hid hm
      have HAD := Lib.hid hAd
      have hgw := HA.out.lt
      have hdg : ¬ db = g := by omega
      have hdg2 : ¬ g = db := by omega
      clear hm hAd
      gi_wp2
      refine region_calmT ?_
      go_region_with (first
        | (go_at_call 46; refine (delete_ts B _ ts 0 d _ HAD.out.own (by omega) HDN.out (by have := HL.out; omega)).mono ?_; rintro e wn ⟨v', rfl, hO, hg8, hob⟩; have HFR := Lib.hid (Fresh.same (w := W3.drew) hob); have hA9 : wn.heap[g]? = some (.cells #[.slice ao n cap] 124 (0, 0)) := (hg8.block g HAD.out.lt (fun e => HAD.out.ne e.symm)).trans HAD.out.at_; obtain ⟨ao', cap', hv'⟩ := hO.reads.lenOf; rw [← HM.out] at hv'; subst hv'; have hc9 : wn.cell? ⟨g, 0, none⟩ = some (.slice ao n cap) := (by rw [World.cell?, hA9]; rfl); have hdb9 : wn.cell? ⟨db, 0, none⟩ = some (.slice ao1 d cap1) := ((World.cell?_of_block (a := ⟨db, 0, none⟩) (hg8.block db (by have h1 := HON.out.grow.size; show db < W3.heap.size; omega) (fun e => by have h1 := (HA.out.own.block e.symm).2; omega))).trans c0); have hf9 : wn.frozen? ⟨g, 0, none⟩ = false := (by simp [World.frozen?, hA9]); have HO9 := Lib.hid hO; have HG9 := Lib.hid hg8; have HA9 := Lib.hid hA9; clear hO hg8 hA9 hob)
        | fail)
      all_goals
        have h2 : Left2 B g (.slice ao n cap) (ts.drop (dueL ts now most).length) W3 (wn.setCell ⟨g, 0, none⟩ (.slice ao' m cap')) := by
          rw [HD.out, ← HDD.out, show ts.drop d = delAt ts 0 d from by simp [delAt]]
          exact left2_store HA3.out (show Below W3.heap.size W3 W3.drew from (Below.refl _ W3).drew) HG9.out HO9.out HA9.out HFR.out
        obtain ⟨k5, o5, l5⟩ := due_post (db := db) HA.out HB1.out (by omega) (by omega) HON.out HI.out hD hnD HK.out h2
        have K5 := Lib.hid k5
        have O5 := Lib.hid o5
        have L5 := Lib.hid l5
        clear k5 o5 l5 h2
        gi_wp2
        refine ⟨by simp, .inl ⟨_, _, rfl, run_takeDeferred K5.out, ?_⟩⟩
        exact ⟨.slice ao1 d cap1, by simp [results, Tryz.results35, go_sem], _, rfl, by rw [HD.out]; exact O5.out, L5.out⟩
  case stop =>
    rintro D Φ c pre' W3 hpre ⟨rfl, pre, x, rfl, hx, v1, hI⟩ hon hD hnD hK
    have hd : dueL ts now most = pre := dueL_stop hpre hI.due hI.cnt hx
    have hA3 : AgA B g (.slice ao n cap) ts W3 := by
      have h1 := HA1.out
      have hgl := HA.out.lt
      exact ⟨(hon.block g h1.lt (by omega) (fun h => h)).trans h1.at_, h1.own.of (Nat.le_refl _) (fun k hk => hon.block k (h1.own.block hk).2 (by have := (HA.out.own.block hk).2; omega) (fun h => h)), h1.ne, h1.lo⟩
    obtain ⟨ao1, cap1, rfl⟩ := hI.own.reads.lenOf
    obtain ⟨d, hdd⟩ : ∃ d, d = (pre).length := ⟨_, rfl⟩
    rw [← hdd] at hI
    have c0 := hI.bx.cell
    have cg : W3.cell? ⟨g, 0, none⟩ = some (.slice ao n cap) := by rw [World.cell?, hA3.at_]; rfl
    have hdn : d ≤ ts.length := by have h1 := dueL_le ts now most; rw [hd] at h1; omega
    have HD := Lib.hid hd
    have HDD := Lib.hid hdd
    have HI := Lib.hid hI
    have HON := Lib.hid hon
    have HA3 := Lib.hid hA3
    have HK := Lib.hid hK
    have HDN := Lib.hid hdn
    clear hI hon hA3 hK hd hdd hdn
    by_cases hz : d = 0
    · have hz' : ((0 : Int) < (d : Int)) = False := by simp; omega
      have h2 : Left2 B g (.slice ao n cap) (ts.drop (dueL ts now most).length) W3 W3 := by
        rw [HD.out, ← HDD.out, hz, List.drop_zero]
        exact Left2.same HA3.out (Below.refl _ _)
      obtain ⟨k5, o5, l5⟩ := due_post (db := db) HA.out HB1.out (by omega) (by omega) HON.out HI.out hD hnD HK.out h2
      have K5 := Lib.hid k5
      have O5 := Lib.hid o5
      have L5 := Lib.hid l5
      clear k5 o5 l5 h2
      subst hz
      gi_wp2
      refine ⟨by simp, .inl ⟨_, _, rfl, run_takeDeferred K5.out, ?_⟩⟩
      exact ⟨.slice ao1 0 cap1, by simp [results, Tryz.results35, go_sem], _, rfl, by rw [HD.out]; exact O5.out, L5.out⟩
    · have hz' : (0 : Int) < (d : Int) := by omega
      have hAd := HA3.out.later (show Below W3.heap.size W3 W3.drew from (Below.refl _ W3).drew)
      obtain ⟨m, hm⟩ : ∃ m, m = (delAt ts 0 d).length := ⟨_, rfl⟩
      have HM := Lib.hid hm
      have HAD := Lib.hid hAd
      have hgw := HA.out.lt
      have hdg : ¬ db = g := by omega
      have hdg2 : ¬ g = db := by omega
      clear hm hAd
      gi_wp2
      refine region_calmT ?_
      go_region_with (first
        | (go_at_call 46; refine (delete_ts B _ ts 0 d _ HAD.out.own (by omega) HDN.out (by have := HL.out; omega)).mono ?_; rintro e wn ⟨v', rfl, hO, hg8, hob⟩; have HFR := Lib.hid (Fresh.same (w := W3.drew) hob); have hA9 : wn.heap[g]? = some (.cells #[.slice ao n cap] 124 (0, 0)) := (hg8.block g HAD.out.lt (fun e => HAD.out.ne e.symm)).trans HAD.out.at_; obtain ⟨ao', cap', hv'⟩ := hO.reads.lenOf; rw [← HM.out] at hv'; subst hv'; have hc9 : wn.cell? ⟨g, 0, none⟩ = some (.slice ao n cap) := (by rw [World.cell?, hA9]; rfl); have hdb9 : wn.cell? ⟨db, 0, none⟩ = some (.slice ao1 d cap1) := ((World.cell?_of_block (a := ⟨db, 0, none⟩) (hg8.block db (by have h1 := HON.out.grow.size; show db < W3.heap.size; omega) (fun e => by have h1 := (HA.out.own.block e.symm).2; omega))).trans c0); have hf9 : wn.frozen? ⟨g, 0, none⟩ = false := (by simp [World.frozen?, hA9]); have HO9 := Lib.hid hO; have HG9 := Lib.hid hg8; have HA9 := Lib.hid hA9; clear hO hg8 hA9 hob)
        | fail)
      all_goals
        have h2 : Left2 B g (.slice ao n cap) (ts.drop (dueL ts now most).length) W3 (wn.setCell ⟨g, 0, none⟩ (.slice ao' m cap')) := by
          rw [HD.out, ← HDD.out, show ts.drop d = delAt ts 0 d from by simp [delAt]]
          exact left2_store HA3.out (show Below W3.heap.size W3 W3.drew from (Below.refl _ W3).drew) HG9.out HO9.out HA9.out HFR.out
        obtain ⟨k5, o5, l5⟩ := due_post (db := db) HA.out HB1.out (by omega) (by omega) HON.out HI.out hD hnD HK.out h2
        have K5 := Lib.hid k5
        have O5 := Lib.hid o5
        have L5 := Lib.hid l5
        clear k5 o5 l5 h2
        gi_wp2
        refine ⟨by simp, .inl ⟨_, _, rfl, run_takeDeferred K5.out, ?_⟩⟩
        exact ⟨.slice ao1 d cap1, by simp [results, Tryz.results35, go_sem], _, rfl, by rw [HD.out]; exact O5.out, L5.out⟩
end Go.Proofs.YteioacpfphigjaaGreat
end

section
namespace Go.Proofs.YteioacpfphigjaaGreat
open Go.RowKit Go.Shelf
attribute [local go_sem] Oper.semAt_some
set_option linter.unusedVariables false
set_option linter.unusedSimpArgs false

def NolI (N0 db : Nat) (pre : List Tk) (Φ : FP) (W : World) : Prop := (∀ k, ¬ Φ k) ∧ Boxed W db 62 (.slice none 0 0) ∧ N0 ≤ W.heap.size
theorem NolI.stab {N0 db : Nat} (h1 : db < N0) : Stab N0 (NolI N0 db) := by
  rintro pre Φ W ⟨a, b, f⟩
  exact ⟨fun k hk => absurd hk (a k), f, fun W' hg hk => ⟨a, (hk db (.inl h1)).trans b, Nat.le_trans f hg.size⟩⟩
set_option maxHeartbeats 4000000 in
set_option maxRecDepth 100000 in
theorem Due_none {g : Nat} (now most : Int) (w : World) (hg : w.heap[g]? = some (.cells #[.slice none 0 0] 124 (0, 0))) :
    Calls Tryz.prog 35 #[.pointer (some ⟨g, 0, none⟩), .int .i64 now, .int .i64 most] w fun e w' => e = .returned (.slice none 0 0) ∧ Below w.heap.size w w' := by
  have hgl : g < w.heap.size := (Array.getElem?_eq_some_iff.1 hg).1
  have HG := Lib.hid (And.intro hg hgl)
  clear hg hgl
  refine (callsIn_wide (n := 2)).1 ?_
  refine callsIn_of_wp_marks Tryz.func35 rfl trivial ?_ rfl
  simp only [Tryz.ntmps35, List.size_toArray, List.length_cons, List.length_nil, Nat.reduceAdd, Nat.reduceSub, Array.replicate_succ, Array.replicate_zero, List.push_toArray, List.append_toArray, List.nil_append, List.cons_append]
  gi_wp2_with (first | (gi_at_call 45; refine (callsIn_wide.2 (agenda_All _ ⟨_, rfl⟩ _)).mono ?_; rintro e w1 ⟨rfl, hw1⟩) | (refine ⟨trivial, ?_⟩; gi_at_call 45; refine (callsIn_wide.2 (agenda_All _ ⟨_, rfl⟩ _)).mono ?_; rintro e w1 ⟨rfl, hw1⟩) | fail)
  rw [← hw1]
  obtain ⟨nb, hnb⟩ : ∃ nb, nb = w.heap.size := ⟨_, rfl⟩
  obtain ⟨mb, hmb⟩ : ∃ mb, mb = nb + 1 := ⟨_, rfl⟩
  obtain ⟨db, hdb⟩ : ∃ db, db = mb + 1 := ⟨_, rfl⟩
  obtain ⟨ab, hab⟩ : ∃ ab, ab = db + 1 := ⟨_, rfl⟩
  have hB : Below w.heap.size w w1 := by rw [hw1]; exact ((((Below.refl _ w).alloc (Nat.le_refl _) _).alloc (by simp) _).alloc (by simp; omega) _).alloc (by simp; omega) _
  have hsz : w1.heap.size = nb + 4 := by rw [hw1, hnb]; simp
  have x0 : Boxed w1 nb 3 (.int .i64 now) := by rw [hw1, hnb]; exact (((Boxed.new w _ _).alloc _).alloc _).alloc _
  have x1 : Boxed w1 mb 3 (.int .i64 most) := by
    have := Boxed.new (w.alloc (.cells #[.int .i64 now] 3)) 3 (.int .i64 most)
    rw [World.size_alloc] at this
    rw [hw1, hmb, hnb]; exact (this.alloc _).alloc _
  have x2 : Boxed w1 db 62 (.slice none 0 0) := by
    have := Boxed.new ((w.alloc (.cells #[.int .i64 now] 3)).alloc (.cells #[.int .i64 most] 3)) 62 (.slice none 0 0)
    rw [World.size_alloc, World.size_alloc] at this
    rw [hw1, hdb, hmb, hnb]; exact this.alloc _
  have x3 : Boxed w1 ab 44 (.pointer (some ⟨g, 0, none⟩)) := by
    have := Boxed.new (((w.alloc (.cells #[.int .i64 now] 3)).alloc (.cells #[.int .i64 most] 3)).alloc (.cells #[.slice none 0 0] 62)) 44 (.pointer (some ⟨g, 0, none⟩))
    rw [World.size_alloc, World.size_alloc, World.size_alloc] at this
    rw [hw1, hab, hdb, hmb, hnb]; exact this
  rw [← hnb, ← hmb, ← hdb, ← hab]
  have hit := all_iter 0 ab g (.slice none 0 0) [] w1 x3.cell ((hB.block g HG.out.2).trans HG.out.1) (.inl ⟨rfl, rfl⟩) (by decide) (fun k => k < w1.heap.size) (by show ab < _; omega) (by have := HG.out.2; have := hB.size; show g < _; omega) (fun a n c e h => absurd rfl h)
  have HB1 := Lib.hid hB
  have HX2 := Lib.hid x2
  have HNB := Lib.hid hnb
  have l0 : nb < mb := by omega
  have l1 : mb < db := by omega
  have l2 : db < ab := by omega
  have l3 : ab < w1.heap.size := by omega
  have l4 : w.heap.size ≤ nb := by omega
  clear x3 hw1 hmb hdb hab hsz hB hnb
  refine range_outerA (n := 0) (gf := 64) (lb := #[.pointer (some ⟨ab, 0, none⟩)]) rfl enters_all hit (Grow.refl _) (fun k hk => ⟨hk, rfl⟩) (fun _ => rfl)
    (fun k => k = db) (by rintro k rfl; omega) (NolI w1.heap.size db) (fun _ _ _ _ => False) (NolI.stab (by omega)) (fun c _ _ _ h => h.elim)
    ⟨fun _ h => h, x2, Nat.le_refl _⟩
    (fun x N => { tmps := #[.pointer (some ⟨g, 0, none⟩), .int .i64 now, .int .i64 most, undef, .pointer (some ⟨nb, 0, none⟩), .pointer (some ⟨mb, 0, none⟩), .slice none 0 0, .pointer (some ⟨db, 0, none⟩), .pointer (some ⟨N, 0, none⟩), .pointer (some ⟨g, 0, none⟩), .func (.func 64) #[] #[.pointer (some ⟨ab, 0, none⟩)], .agg (tc x).toArray, undef, undef, undef, undef, undef, undef, undef, undef, undef, undef, undef, undef, undef, undef, undef, undef, undef, undef, undef, undef, undef, undef, undef, undef, undef, undef, undef, undef], defers := [] })
    (fun x N W => W.heap[N]? = some (.cells (tc x).toArray 143 (0, 0))) (fun x N W W' h e => e.trans h) ?assign ?body ?done ?stop
  case assign =>
    intro l x W K hK
    refine frame_eq (b := { tmps := #[.pointer (some ⟨g, 0, none⟩), .int .i64 now, .int .i64 most, undef, .pointer (some ⟨nb, 0, none⟩), .pointer (some ⟨mb, 0, none⟩), .slice none 0 0, .pointer (some ⟨db, 0, none⟩), undef, .pointer (some ⟨g, 0, none⟩), .func (.func 64) #[] #[.pointer (some ⟨ab, 0, none⟩)], .agg (tc x).toArray, undef, undef, undef, undef, undef, undef, undef, undef, undef, undef, undef, undef, undef, undef, undef, undef, undef, undef, undef, undef, undef, undef, undef, undef, undef, undef, undef, undef], defers := [] }) (by simp) ?_
    gi_wp2_with (first
        | (refine wplIn_allocT rfl rfl ?_; intro C hC)
        | (refine wplIn_storeT (t := x) (C := C) _ _ rfl rfl rfl rfl (heap_alloc_new W _) hC ?_)
        | fail)
    refine hK _ ?_ (by simp) (setRow_heap _ _ _ _ _ _ (heap_alloc_new W _))
    exact ((Below.refl _ W).alloc (Nat.le_refl _) _).trans ⟨rfl, rfl, rfl, by simp, fun k hk => setRow_other _ _ k _ (by omega)⟩
  case body =>
    rintro l pre x Φ N W hpx
    have h1 := hpx.length_le
    simp at h1
  case done =>
    rintro D Φ W3 ⟨hΦ, b1, hz⟩ hon hD hnD hK
    have c0 := b1.cell
    have HON := Lib.hid hon
    have HKK := Lib.hid hK
    clear b1 hon hK hΦ
    gi_wp2
    refine ⟨by simp, .inl ⟨_, _, rfl, run_takeDeferred HKK.out, ?_⟩⟩
    refine ⟨.slice none 0 0, by simp [results, Tryz.results35, go_sem], rfl, ?_⟩
    have hg : Grow W3 (W3.putObj D (.deferred none)) := put_grow _ _ _
    have hO2 := HON.out
    have hw2 := HB1.out
    refine ⟨hg.os.trans (hO2.grow.os.trans hw2.os), hg.tape.trans (hO2.grow.tape.trans hw2.tape), hg.output.trans (hO2.grow.output.trans hw2.output), by have := hg.size; have := hO2.grow.size; have := hw2.size; omega, fun k hk => ?_⟩
    have := hw2.size
    rw [put_other (by omega), hO2.block k (by omega) (fun h => by omega) (fun h => h)]
    exact hw2.block k hk
  case stop =>
    rintro D Φ c pre W3 hpre h
    exact h.elim
end Go.Proofs.YteioacpfphigjaaGreat
end

section
namespace Go.Proofs.YteioacpfphigjaaGreat
set_option linter.unusedVariables false
set_option linter.unusedSimpArgs false

/-- Accounts: what is free, what is held. -/
abbrev Acc := Nat → Int × Int
def acc0 : Acc := fun _ => (0, 0)
def upd (A : Acc) (a : Nat) (x : Int × Int) : Acc := fun k => if k = a then x else A k
theorem upd_same (A : Acc) (a : Nat) (x : Int × Int) : upd A a x a = x := by simp [upd]
theorem upd_other (A : Acc) {a k : Nat} (x : Int × Int) (h : k ≠ a) : upd A a x k = A k := by simp [upd, h]
def both (A : Acc) (k : Nat) : Int := (A k).1 + (A k).2
/-- What the first n accounts have. -/
def sumTo (A : Acc) : Nat → Int
  | 0 => 0
  | n + 1 => sumTo A n + both A n
theorem sumTo_upd (A : Acc) (a : Nat) (x : Int × Int) : ∀ n, sumTo (upd A a x) n = sumTo A n + (if a < n then (x.1 + x.2) - both A a else 0)
  | 0 => by simp [sumTo]
  | n + 1 => by
    rw [sumTo, sumTo, sumTo_upd A a x n]
    by_cases h : n = a
    · subst h
      have : both (upd A n x) n = x.1 + x.2 := by simp [both, upd_same]
      rw [this, if_neg (by omega), if_pos (by omega)]; omega
    · have : both (upd A a x) n = both A n := by simp [both, upd_other A x h]
      rw [this]
      by_cases h2 : a < n
      · rw [if_pos h2, if_pos (by omega)]; omega
      · rw [if_neg h2, if_neg (by omega)]; omega
/-- No account is below nought; all of them are within what may be. -/
structure AccOk (A : Acc) : Prop where
  free : ∀ k, 0 ≤ (A k).1
  held : ∀ k, 0 ≤ (A k).2
  all : sumTo A 10 ≤ 1073741824
theorem sumTo_mono {A : Acc} (h : ∀ k, 0 ≤ both A k) : ∀ {m n : Nat}, m ≤ n → sumTo A m ≤ sumTo A n := by
  intro m n hmn
  induction hmn with
  | refl => exact Int.le_refl _
  | step _ ih => rw [sumTo]; have := h; exact Int.le_trans ih (by have := h (by assumption); omega)
theorem AccOk.sum {A : Acc} (h : AccOk A) (k : Nat) : 0 ≤ both A k := by have := h.free k; have := h.held k; unfold both; omega
theorem AccOk.part {A : Acc} (h : AccOk A) {n : Nat} (hn : n ≤ 10) : 0 ≤ sumTo A n ∧ sumTo A n ≤ 1073741824 := by
  have h1 := sumTo_mono h.sum (Nat.zero_le n)
  have h2 := sumTo_mono h.sum hn
  have h3 := h.all
  rw [sumTo] at h1
  omega
theorem AccOk.one {A : Acc} (h : AccOk A) {k : Nat} (hk : k < 10) : both A k ≤ 1073741824 := by
  have h1 := h.part (n := k) (by omega)
  have h2 := h.part (n := k + 1) (by omega)
  rw [sumTo] at h2
  omega
theorem AccOk.zero : AccOk acc0 := ⟨fun k => by simp [acc0], fun k => by simp [acc0], by decide⟩
theorem AccOk.upd {A : Acc} (h : AccOk A) {a : Nat} {x : Int × Int} (ha : a < 10) (h1 : 0 ≤ x.1) (h2 : 0 ≤ x.2) (hs : sumTo A 10 + (x.1 + x.2) - both A a ≤ 1073741824) : AccOk (upd A a x) := by
  refine ⟨fun k => ?_, fun k => ?_, ?_⟩
  · by_cases e : k = a
    · subst e; rw [upd_same]; exact h1
    · rw [upd_other A x e]; exact h.free k
  · by_cases e : k = a
    · subst e; rw [upd_same]; exact h2
    · rw [upd_other A x e]; exact h.held k
  · rw [sumTo_upd, if_pos ha]; omega
/-- The greatest lock of a row. -/
def maxTo (l : List (Int × Int)) : Int := l.foldl (fun n x => max n x.2) 0
theorem maxTo_snoc (l : List (Int × Int)) (x : Int × Int) : maxTo (l ++ [x]) = max (maxTo l) x.2 := by simp [maxTo, List.foldl_append]
theorem foldl_max : ∀ (l : List (Int × Int)) (n : Int), n ≤ l.foldl (fun n x => max n x.2) n ∧ (∀ x ∈ l, x.2 ≤ l.foldl (fun n x => max n x.2) n) ∧ (l.foldl (fun n x => max n x.2) n = n ∨ ∃ x ∈ l, l.foldl (fun n x => max n x.2) n = x.2)
  | [], n => ⟨Int.le_refl _, fun x hx => absurd hx List.not_mem_nil, .inl rfl⟩
  | y :: l, n => by
    obtain ⟨h1, h2, h3⟩ := foldl_max l (max n y.2)
    rw [List.foldl_cons]
    refine ⟨by omega, fun x hx => ?_, ?_⟩
    · rcases List.mem_cons.1 hx with rfl | hx
      · omega
      · exact h2 x hx
    · rcases h3 with h3 | ⟨x, hx, h3⟩
      · rcases Int.le_total n y.2 with h | h
        · exact .inr ⟨y, List.mem_cons_self, by rw [h3]; omega⟩
        · exact .inl (by rw [h3]; omega)
      · exact .inr ⟨x, List.mem_cons_of_mem _ hx, h3⟩
theorem maxTo_nonneg (l : List (Int × Int)) : 0 ≤ maxTo l := (foldl_max l 0).1
theorem maxTo_le {l : List (Int × Int)} {x : Int × Int} (h : x ∈ l) : x.2 ≤ maxTo l := (foldl_max l 0).2.1 x h
theorem maxTo_is (l : List (Int × Int)) : maxTo l = 0 ∨ ∃ x ∈ l, maxTo l = x.2 := (foldl_max l 0).2.2
/-- What is locked of an account. -/
def lockedOf (M : Cls Int) (a : Int) : Int := maxTo (rowOf M a)
def isAcc (a : Int) : Prop := 0 ≤ a ∧ a < 10
instance (a : Int) : Decidable (isAcc a) := by unfold isAcc; infer_instance
def isBal (n : Int) : Prop := 0 ≤ n ∧ n ≤ 1073741824
instance (a : Int) : Decidable (isBal a) := by unfold isBal; infer_instance
/-- May n be taken from what a has free? -/
def spendE (A : Acc) (M : Cls Int) (a n : Int) (back : Bool) : Int :=
  if ¬ isAcc a ∨ ¬ isBal n then 1 else if (A a.toNat).1 < n then 6 else if 0 < n ∧ back = false ∧ (A a.toNat).1 - n < lockedOf M a then 7 else 0
def spendA (A : Acc) (a n : Int) : Acc := upd A a.toNat ((A a.toNat).1 - n, (A a.toNat).2)
theorem spendE_ok {A : Acc} {M : Cls Int} {a n : Int} {b : Bool} (h : spendE A M a n b = 0) : isAcc a ∧ isBal n ∧ n ≤ (A a.toNat).1 := by
  unfold spendE at h
  split at h
  · cases h
  · rename_i h1
    split at h
    · cases h
    · rename_i h2
      exact ⟨by simpa using fun k => h1 (.inl k), by simpa using fun k => h1 (.inr k), by omega⟩
theorem spendA_ok {A : Acc} (h : AccOk A) {a n : Int} (ha : isAcc a) (hn : isBal n) (hf : n ≤ (A a.toNat).1) : AccOk (spendA A a n) := by
  unfold isAcc at ha
  unfold isBal at hn
  have := h.held a.toNat
  have := h.all
  exact h.upd (by omega) (by simp only; omega) (by simpa using h.held _) (by unfold both; simp only; omega)
end Go.Proofs.YteioacpfphigjaaGreat
end

section
namespace Go.Proofs.YteioacpfphigjaaGreat
open Go.RowKit Go.Maps Go.Shelf
set_option linter.unusedVariables false
set_option linter.unusedSimpArgs false

theorem IterF.later {P : Program} {α : Type} {n gf : Nat} {lb : Array Value} {encs : α → Array Value} {xs : List α} {G G' : FP} {w W : World} (h : IterF P n gf lb encs xs G w) (hg : Grow w W) (hG : ∀ k, G k → k < w.heap.size ∧ W.heap[k]? = w.heap[k]?) (hs : ∀ k, G k → G' k) : IterF P n gf lb encs xs G' W := by
  intro l B Ψ J Jx Φ0 W2 hg2 hG2 hΨ hJ hJx hr h0
  exact h l B Ψ J Jx Φ0 W2 (hg.trans hg2) (fun k hk => ⟨(hG k hk).1, (hG2 k (hs k hk)).2.trans (hG k hk).2⟩) hΨ hJ hJx hr h0
/-- A way's value: what it tells, in world w. -/
def Way {α : Type} (P : Program) (encs : α → Array Value) (f : Value) (xs : List α) (w : World) : Prop :=
  ∃ gf lb, f = .func (.func gf) #[] lb ∧ (∀ args w, (callFunc gf args).run P w = .ok (.enter gf args) w) ∧ ∀ n, IterF P n gf lb encs xs (fun k => k < w.heap.size) w
theorem Way.below {P : Program} {α : Type} {encs : α → Array Value} {f : Value} {xs : List α} {w W : World} (h : Way P encs f xs w) (hb : Below w.heap.size w W) : Way P encs f xs W := by
  obtain ⟨gf, lb, e, eg, hi⟩ := h
  exact ⟨gf, lb, e, eg, fun n => (hi n).later (Grow.of_below hb) (fun k hk => ⟨hk, hb.block k hk⟩) (fun k hk => Nat.lt_of_lt_of_le hk hb.size)⟩

set_option maxRecDepth 100000 in
set_option maxHeartbeats 2000000 in
theorem grid_Row_I {g : Nat} {M : Cls Int} {F : FP} {w : World} (h : GrAt codI 155 g M F w) (hlen : M.length ≤ 100000) {s : Int} (hs : (Lit.int .i64 s).wf = true) :
    Calls Tryz.prog 160 #[.pointer (some ⟨g, 0, none⟩), .int .i64 s] w fun e w' => ∃ f, e = .returned f ∧ Way Tryz.prog encs_I f (rowOf M s) w' ∧ Below w.heap.size w w' := by
  have c1 := grid_row_I (some ⟨g, 0, none⟩) s w
  have hway : ∀ w', w' = ((w.alloc (.cells #[.pointer (some ⟨g, 0, none⟩)] 73)).alloc (.cells #[.int .i64 s] 3)).alloc (.cells #[.func (.func 179) #[] #[.pointer (some ⟨w.heap.size, 0, none⟩), .pointer (some ⟨w.heap.size + 1, 0, none⟩)]] 147) →
      Way Tryz.prog encs_I (.func (.func 177) #[] #[.pointer (some ⟨w.heap.size + 2, 0, none⟩)]) (rowOf M s) w' ∧ Below w.heap.size w w' := by
    intro w' hw'
    have hB : Below w.heap.size w w' := by rw [hw']; exact (((Below.refl _ w).alloc (Nat.le_refl _) _).alloc (by simp) _).alloc (by simp; omega) _
    have hsz : w'.heap.size = w.heap.size + 3 := by rw [hw']; simp
    have b0 : Boxed w' w.heap.size 73 (.pointer (some ⟨g, 0, none⟩)) := by rw [hw']; exact ((Boxed.new w _ _).alloc _).alloc _
    have b1 : Boxed w' (w.heap.size + 1) 3 (.int .i64 s) := by
      have := Boxed.new (w.alloc (.cells #[.pointer (some ⟨g, 0, none⟩)] 73)) 3 (.int .i64 s)
      rw [World.size_alloc] at this
      rw [hw']; exact this.alloc _
    have b2 : Boxed w' (w.heap.size + 2) 147 (.func (.func 179) #[] #[.pointer (some ⟨w.heap.size, 0, none⟩), .pointer (some ⟨w.heap.size + 1, 0, none⟩)]) := by
      have := Boxed.new ((w.alloc (.cells #[.pointer (some ⟨g, 0, none⟩)] 73)).alloc (.cells #[.int .i64 s] 3)) 147 (.func (.func 179) #[] #[.pointer (some ⟨w.heap.size, 0, none⟩), .pointer (some ⟨w.heap.size + 1, 0, none⟩)])
      rw [World.size_alloc, World.size_alloc] at this
      rw [hw']; exact this
    have hg' : GrAt codI 155 g M F w' := h.keep (Grow.of_below hB) (fun k hk => hB.block k (h.2.2.1 k hk))
    have hi := row_iter_I 0 w.heap.size (w.heap.size + 1) g M F s w' b0.cell b1.cell hg' hlen hs (fun k => k < w'.heap.size) (by omega) (by omega) (fun k hk => hg'.2.2.1 k hk)
    refine ⟨⟨_, _, rfl, enters_begun_I, fun n => ?_⟩, hB⟩
    exact begun_iter_I n (w.heap.size + 2) _ _ (rowOf M s) (fun k => k < w'.heap.size) w' b2 enters_row1_I hi (by omega) (fun k hk => hk) (by have := row_length M s; omega)
  have HW := Lib.hid hway
  have HC := Lib.hid c1
  clear c1 hway h hlen hs
  go_enter Tryz.func160, Tryz.ntmps160
  go_wp2_with (first
    | (go_at_call 171; refine HC.out.mono ?_; rintro e w1 ⟨rfl, rfl⟩)
    | (go_at_call 170; refine (still_Begun_I _ _ ⟨_, _, rfl⟩).mono ?_; rintro e w2 ⟨rfl, rfl⟩)
    | fail)
  go_ret
  exact ⟨_, rfl, (HW.out _ rfl).1, (HW.out _ rfl).2⟩
set_option maxRecDepth 100000 in
set_option maxHeartbeats 2000000 in
theorem grid_Row_nil_I (s : Int) (w : World) :
    Calls Tryz.prog 160 #[.pointer none, .int .i64 s] w fun e w' => ∃ f, e = .returned f ∧ Way Tryz.prog encs_I f [] w' ∧ Below w.heap.size w w' := by
  have c1 := grid_row_I none s w
  have hway : ∀ w', w' = ((w.alloc (.cells #[.pointer none] 73)).alloc (.cells #[.int .i64 s] 3)).alloc (.cells #[.func (.func 179) #[] #[.pointer (some ⟨w.heap.size, 0, none⟩), .pointer (some ⟨w.heap.size + 1, 0, none⟩)]] 147) →
      Way Tryz.prog encs_I (.func (.func 177) #[] #[.pointer (some ⟨w.heap.size + 2, 0, none⟩)]) [] w' ∧ Below w.heap.size w w' := by
    intro w' hw'
    have hB : Below w.heap.size w w' := by rw [hw']; exact (((Below.refl _ w).alloc (Nat.le_refl _) _).alloc (by simp) _).alloc (by simp; omega) _
    have hsz : w'.heap.size = w.heap.size + 3 := by rw [hw']; simp
    have b0 : Boxed w' w.heap.size 73 (.pointer none) := by rw [hw']; exact ((Boxed.new w _ _).alloc _).alloc _
    have b2 : Boxed w' (w.heap.size + 2) 147 (.func (.func 179) #[] #[.pointer (some ⟨w.heap.size, 0, none⟩), .pointer (some ⟨w.heap.size + 1, 0, none⟩)]) := by
      have := Boxed.new ((w.alloc (.cells #[.pointer none] 73)).alloc (.cells #[.int .i64 s] 3)) 147 (.func (.func 179) #[] #[.pointer (some ⟨w.heap.size, 0, none⟩), .pointer (some ⟨w.heap.size + 1, 0, none⟩)])
      rw [World.size_alloc, World.size_alloc] at this
      rw [hw']; exact this
    have hi := row_iter_nil_I 0 w.heap.size (w.heap.size + 1) w' b0.cell (fun k => k < w'.heap.size) (by omega)
    refine ⟨⟨_, _, rfl, enters_begun_I, fun n => ?_⟩, hB⟩
    exact begun_iter_I n (w.heap.size + 2) _ _ [] (fun k => k < w'.heap.size) w' b2 enters_row1_I hi (by omega) (fun k hk => hk) (by simp)
  have HW := Lib.hid hway
  have HC := Lib.hid c1
  clear c1 hway
  go_enter Tryz.func160, Tryz.ntmps160
  go_wp2_with (first
    | (go_at_call 171; refine HC.out.mono ?_; rintro e w1 ⟨rfl, rfl⟩)
    | (go_at_call 170; refine (still_Begun_I _ _ ⟨_, _, rfl⟩).mono ?_; rintro e w2 ⟨rfl, rfl⟩)
    | fail)
  go_ret
  exact ⟨_, rfl, (HW.out _ rfl).1, (HW.out _ rfl).2⟩

end Go.Proofs.YteioacpfphigjaaGreat
end

section
namespace Go.Proofs.YteioacpfphigjaaGreat
open Go.RowKit Go.Maps Go.Shelf
set_option linter.unusedVariables false
set_option linter.unusedSimpArgs false

/-- A table of the call's own. -/
def GrOwn {β : Type} (c : Cod β) (T : TypeId) (N g : Nat) (M : Cls β) (w : World) : Prop := ∃ F, GrAt c T g M F w ∧ ∀ k, F k → N ≤ k
section
variable {β : Type} {c : Cod β} {T : TypeId} {N g : Nat} {M M' : Cls β} {w w' : World} {F : FP}
theorem GrOwn.to (h : GrTo c T g M' F w w') (hF : ∀ k, F k → N ≤ k) (hN : N ≤ w.heap.size) : GrOwn c T N g M' w' ∧ Below N w w' := by
  obtain ⟨F', h1, h2, h3⟩ := h
  exact ⟨⟨F', h1, fun k hk => (h2 k hk).elim (hF k) (fun h => by omega)⟩, h3.below hN hF (fun k h => h.elim)⟩
theorem GrOwn.below (h : GrOwn c T N g M w) (hb : Below w.heap.size w w') : GrOwn c T N g M w' := by
  obtain ⟨F, h1, h2⟩ := h
  exact ⟨F, h1.keep (Grow.of_below hb) (fun k hk => hb.block k (h1.2.2.1 k hk)), h2⟩
theorem GrOwn.srt (h : GrOwn c T N g M w) : SrtC M := by obtain ⟨F, h1, _⟩ := h; exact h1.1
theorem Below.of_all {N : Nat} {w w' : World} (h : Below w.heap.size w w') (hN : N ≤ w.heap.size) : Below N w w' := h.mono hN
end
theorem grid_New_own_I (w : World) : Calls Tryz.prog 21 #[] w fun e w' => ∃ g, e = .returned (.pointer (some ⟨g, 0, none⟩)) ∧ GrOwn codI 155 w.heap.size g [] w' ∧ Below w.heap.size w w' := by
  refine (grid_New_I w).mono ?_
  rintro e w' ⟨rfl, rfl⟩
  exact ⟨_, rfl, ⟨_, GrAt.new_I w, fun k hk => by omega⟩, (Below.refl _ w).alloc (Nat.le_refl _) _⟩
theorem OwnN.two {B : Nat} {v : Value} {x y : Int} {w : World} (h : OwnN B v [x, y] w) : ∃ b cap, v = .slice (some ⟨b, 0, none⟩) 2 cap ∧ w.cell? ⟨b, 0, none⟩ = some (.int .i64 x) ∧ w.cell? ⟨b, 1, none⟩ = some (.int .i64 y) := by
  obtain ⟨b, cap, rfl, h0, _, _⟩ := h.at (k := 0) (by simp)
  obtain ⟨b', cap', e, h1, _, _⟩ := h.at (k := 1) (by simp)
  injection e with e1 e2 e3
  injection e1 with e1
  injection e1 with e1
  subst e1
  exact ⟨b, cap, rfl, h0, h1⟩
def M3 : Cls Int := cput (cput (cput [] 5 1 7) 2 1 8) 2 3 9
theorem M3_col : colOf M3 1 = [(2, 8), (5, 7)] := by decide +kernel
theorem M3_len : M3.length = 3 := by decide +kernel
end Go.Proofs.YteioacpfphigjaaGreat
end

section
namespace Go.Proofs.YteioacpfphigjaaGreat
open Go.RowKit Go.Maps Go.Shelf
set_option linter.unusedVariables false
set_option linter.unusedSimpArgs false

/-- The accounts' cells. -/
def accs (A : Acc) : Nat → List Value
  | 0 => []
  | n + 1 => accs A n ++ [.int .i64 (A n).1, .int .i64 (A n).2]
theorem accs_len (A : Acc) : ∀ n, (accs A n).length = 2 * n
  | 0 => rfl
  | n + 1 => by rw [accs, List.length_append, accs_len A n]; simp; omega
theorem accs_at (A : Acc) : ∀ {n k : Nat}, k < n → (accs A n)[k * 2]? = some (.int .i64 (A k).1) ∧ (accs A n)[k * 2 + 1]? = some (.int .i64 (A k).2)
  | n + 1, k, h => by
    rw [accs]
    by_cases e : k = n
    · subst e
      have hl := accs_len A k
      rw [List.getElem?_append_right (by omega), List.getElem?_append_right (by omega), show k * 2 - (accs A k).length = 0 by omega, show k * 2 + 1 - (accs A k).length = 1 by omega]
      exact ⟨rfl, rfl⟩
    · have hl := accs_len A n
      have := accs_at A (n := n) (k := k) (by omega)
      rw [List.getElem?_append_left (by omega), List.getElem?_append_left (by omega)]
      exact this
theorem accs_free (A : Acc) {n a : Nat} (h : a < n) (v : Int) : (accs A n).set (a * 2) (.int .i64 v) = accs (upd A a (v, (A a).2)) n := by
  refine List.ext_getElem? (fun i => ?_)
  have hl := accs_len A n
  have hl' := accs_len (upd A a (v, (A a).2)) n
  by_cases hi : i < 2 * n
  · obtain ⟨k, e⟩ : ∃ k, i = k * 2 ∨ i = k * 2 + 1 := ⟨i / 2, by omega⟩
    have hk : k < n := by omega
    have h1 := accs_at A hk
    have h2 := accs_at (upd A a (v, (A a).2)) hk
    rcases e with e | e
    · subst e
      rw [h2.1]
      by_cases c : k = a
      · subst c; rw [List.getElem?_set_self (by omega), upd_same]
      · rw [List.getElem?_set_ne (by omega), h1.1, upd_other A _ c]
    · subst e
      rw [h2.2, List.getElem?_set_ne (by omega), h1.2]
      by_cases c : k = a
      · subst c; rw [upd_same]
      · rw [upd_other A _ c]
  · rw [List.getElem?_eq_none (by simp; omega), List.getElem?_eq_none (by omega)]
theorem accs_held (A : Acc) {n a : Nat} (h : a < n) (v : Int) : (accs A n).set (a * 2 + 1) (.int .i64 v) = accs (upd A a ((A a).1, v)) n := by
  refine List.ext_getElem? (fun i => ?_)
  have hl := accs_len A n
  have hl' := accs_len (upd A a ((A a).1, v)) n
  by_cases hi : i < 2 * n
  · obtain ⟨k, e⟩ : ∃ k, i = k * 2 ∨ i = k * 2 + 1 := ⟨i / 2, by omega⟩
    have hk : k < n := by omega
    have h1 := accs_at A hk
    have h2 := accs_at (upd A a ((A a).1, v)) hk
    rcases e with e | e
    · subst e
      rw [h2.1, List.getElem?_set_ne (by omega), h1.1]
      by_cases c : k = a
      · subst c; rw [upd_same]
      · rw [upd_other A _ c]
    · subst e
      rw [h2.2]
      by_cases c : k = a
      · subst c; rw [List.getElem?_set_self (by omega), upd_same]
      · rw [List.getElem?_set_ne (by omega), h1.2, upd_other A _ c]
  · rw [List.getElem?_eq_none (by simp; omega), List.getElem?_eq_none (by omega)]

/-- The ledger's cells. -/
def lcells (A : Acc) (gl : Nat) : List Value := accs A 10 ++ [.pointer (some ⟨gl, 0, none⟩)]
/-- A ledger of the call's own: its struct lies in g, its locks' table in gl. -/
structure LdAt (N g gl : Nat) (A : Acc) (M : Cls Int) (w : World) : Prop where
  blk : w.heap[g]? = some (.cells (lcells A gl).toArray 79 (0, 0))
  gr : ∃ F, GrAt codI 155 gl M F w ∧ ∀ k, F k → N ≤ k ∧ k ≠ g
  lo : N ≤ g
  ok : AccOk A
  len : M.length ≤ 10000
section
variable {N g gl : Nat} {A : Acc} {M : Cls Int} {w w' : World}
theorem LdAt.lt (h : LdAt N g gl A M w) : g < w.heap.size := (Array.getElem?_eq_some_iff.1 h.blk).1
theorem LdAt.below (h : LdAt N g gl A M w) (hb : Below w.heap.size w w') : LdAt N g gl A M w' := by
  obtain ⟨F, h1, h2⟩ := h.gr
  exact ⟨(hb.block g h.lt).trans h.blk, ⟨F, h1.keep (Grow.of_below hb) (fun k hk => hb.block k (h1.2.2.1 k hk)), h2⟩, h.lo, h.ok, h.len⟩
theorem lcells_acc {k : Nat} (hk : k < 10) : (lcells A gl)[k * 2]? = some (.int .i64 (A k).1) ∧ (lcells A gl)[k * 2 + 1]? = some (.int .i64 (A k).2) := by
  have hl := accs_len A 10
  unfold lcells
  rw [List.getElem?_append_left (by omega), List.getElem?_append_left (by omega)]
  exact accs_at A hk
theorem lcells_ptr : (lcells A gl)[20]? = some (.pointer (some ⟨gl, 0, none⟩)) := by
  have hl := accs_len A 10
  unfold lcells
  rw [List.getElem?_append_right (by omega), hl]
  rfl
theorem cell_of {b i : Nat} {l : List Value} {T : TypeId} {v : Value} (h : w.heap[b]? = some (.cells l.toArray T (0, 0))) (hv : l[i]? = some v) : w.cell? ⟨b, i, none⟩ = some v := by
  rw [World.cell?, h]; simpa using hv
theorem LdAt.free (h : LdAt N g gl A M w) {k : Nat} (hk : k < 10) : w.cell? ⟨g, k * 2, none⟩ = some (.int .i64 (A k).1) := cell_of h.blk (lcells_acc hk).1
theorem LdAt.held (h : LdAt N g gl A M w) {k : Nat} (hk : k < 10) : w.cell? ⟨g, k * 2 + 1, none⟩ = some (.int .i64 (A k).2) := cell_of h.blk (lcells_acc hk).2
theorem LdAt.ptr (h : LdAt N g gl A M w) : w.cell? ⟨g, 20, none⟩ = some (.pointer (some ⟨gl, 0, none⟩)) := cell_of h.blk lcells_ptr
theorem LdAt.frozen (h : LdAt N g gl A M w) (i : Nat) : w.frozen? ⟨g, i, none⟩ = false := by simp [World.frozen?, h.blk]
theorem setCell_at {b i : Nat} {l : List Value} {T : TypeId} {v : Value} (h : w.heap[b]? = some (.cells l.toArray T (0, 0))) : (w.setCell ⟨b, i, none⟩ v).heap[b]? = some (.cells (l.set i v).toArray T (0, 0)) := by
  simp [World.setCell, Array.getElem?_modify, h]
theorem grow_set {b i : Nat} {v : Value} : Grow w (w.setCell ⟨b, i, none⟩ v) := ⟨rfl, rfl, rfl, by simp [World.setCell]⟩
theorem below_set {b i : Nat} {v : Value} (h : N ≤ b) : Below N w (w.setCell ⟨b, i, none⟩ v) := ⟨rfl, rfl, rfl, by simp [World.setCell], fun k hk => Below.heap_setCell _ _ _ k (by show k ≠ b; omega)⟩
theorem LdAt.put {i : Nat} {v : Value} {A' : Acc} (h : LdAt N g gl A M w) (hA : (lcells A gl).set i v = lcells A' gl) (hok : AccOk A') : LdAt N g gl A' M (w.setCell ⟨g, i, none⟩ v) ∧ Below N w (w.setCell ⟨g, i, none⟩ v) := by
  obtain ⟨F, h1, h2⟩ := h.gr
  refine ⟨⟨?_, ⟨F, h1.keep grow_set (fun k hk => Below.heap_setCell _ _ _ k (h2 k hk).2), h2⟩, h.lo, hok, h.len⟩, below_set h.lo⟩
  rw [setCell_at h.blk, hA]
theorem lcells_free {a : Nat} (ha : a < 10) (v : Int) : (lcells A gl).set (a * 2) (.int .i64 v) = lcells (upd A a (v, (A a).2)) gl := by
  unfold lcells
  rw [List.set_append_left _ _ (by rw [accs_len]; omega), accs_free A ha]
theorem lcells_held {a : Nat} (ha : a < 10) (v : Int) : (lcells A gl).set (a * 2 + 1) (.int .i64 v) = lcells (upd A a ((A a).1, v)) gl := by
  unfold lcells
  rw [List.set_append_left _ _ (by rw [accs_len]; omega), accs_held A ha]
theorem LdAt.setFree (h : LdAt N g gl A M w) {a : Nat} (ha : a < 10) (v : Int) (hok : AccOk (upd A a (v, (A a).2))) : LdAt N g gl (upd A a (v, (A a).2)) M (w.setCell ⟨g, a * 2, none⟩ (.int .i64 v)) ∧ Below N w (w.setCell ⟨g, a * 2, none⟩ (.int .i64 v)) := h.put (lcells_free ha v) hok
end

theorem isAcc_nat {a : Int} (h : isAcc a) : ∃ k : Nat, a = k ∧ k < 10 := by unfold isAcc at h; exact ⟨a.toNat, by omega, by omega⟩
set_option maxRecDepth 100000 in
theorem ledger_account {g k : Nat} (hk : k < 10) (w : World) : Calls Tryz.prog 40 #[.pointer (some ⟨g, 0, none⟩), .int .i64 (k : Int)] w fun e w' => e = .returned (.pointer (some ⟨g, k * 2, none⟩)) ∧ w' = w := by
  have c1 : decide (0 ≤ (k : Int) ∧ (k : Int) < 10) = true := by simp; omega
  have h1 : (k : Int) < 10 := by omega
  have h0 : ¬ (k : Int) < 0 := by omega
  have C1 := Lib.hid c1
  clear c1
  go_enter Tryz.func40, Tryz.ntmps40
  go_wp2_with (first | (go_at_call 60; refine (bound_Account _ _).mono ?_; rw [C1.out]; rintro e w' ⟨rfl, rfl⟩) | fail)
  exact bodyPost_ret (v := .pointer (some ⟨g, k * 2, none⟩)) (by simp [results, Tryz.results40, go_sem]) rfl ⟨rfl, rfl⟩
theorem ledger_account_no {g : Nat} {a : Int} (ha : ¬ isAcc a) (w : World) : Calls Tryz.prog 40 #[.pointer (some ⟨g, 0, none⟩), .int .i64 a] w fun e w' => e = .returned (.pointer none) ∧ w' = w := by
  have c1 : decide (0 ≤ a ∧ a < 10) = false := by unfold isAcc at ha; exact decide_eq_false ha
  have C1 := Lib.hid c1
  clear c1 ha
  go_enter Tryz.func40, Tryz.ntmps40
  go_wp2_with (first | (go_at_call 60; refine (bound_Account _ _).mono ?_; rw [C1.out]; rintro e w' ⟨rfl, rfl⟩) | fail)
  exact bodyPost_ret (v := .pointer none) (by simp [results, Tryz.results40, go_sem]) rfl ⟨rfl, rfl⟩
theorem ledger_account_nil (a : Int) (w : World) : Calls Tryz.prog 40 #[.pointer none, .int .i64 a] w fun e w' => e = .returned (.pointer none) ∧ w' = w := by
  go_enter Tryz.func40, Tryz.ntmps40
  go_wp2
  exact bodyPost_ret (v := .pointer none) (by simp [results, Tryz.results40, go_sem]) rfl ⟨rfl, rfl⟩
def accOf (A : Acc) (a : Int) : Int × Int := if isAcc a then A a.toNat else (0, 0)
theorem ledger_Free {N g gl : Nat} {A : Acc} {M : Cls Int} {w : World} (h : LdAt N g gl A M w) (a : Int) : Calls Tryz.prog 20 #[.pointer (some ⟨g, 0, none⟩), .int .i64 a] w fun e w' => e = .returned (.int .i64 (accOf A a).1) ∧ w' = w := by
  by_cases ha : isAcc a
  · rw [accOf, if_pos ha]
    obtain ⟨k, rfl, hk⟩ := isAcc_nat ha
    have hc := h.free hk
    rw [Int.toNat_natCast]
    obtain ⟨v, hv⟩ : ∃ v, v = (A k).1 := ⟨_, rfl⟩
    rw [← hv] at hc ⊢
    clear hv h ha
    have HK := Lib.hid hk
    clear hk
    go_enter Tryz.func20, Tryz.ntmps20
    go_wp2_with (first | (go_at_call 40; refine (ledger_account HK.out w).mono ?_; rintro e w' ⟨rfl, rfl⟩) | fail)
    exact bodyPost_ret (v := .int .i64 v) (by simp [results, Tryz.results20, go_sem]) rfl ⟨rfl, rfl⟩
  · rw [accOf, if_neg ha]
    have HA := Lib.hid ha
    clear h ha
    go_enter Tryz.func20, Tryz.ntmps20
    go_wp2_with (first | (go_at_call 40; refine (ledger_account_no HA.out w).mono ?_; rintro e w' ⟨rfl, rfl⟩) | fail)
    exact bodyPost_ret (v := .int .i64 0) (by simp [results, Tryz.results20, go_sem]) rfl ⟨rfl, rfl⟩
theorem ledger_Free_nil (a : Int) (w : World) : Calls Tryz.prog 20 #[.pointer none, .int .i64 a] w fun e w' => e = .returned (.int .i64 0) ∧ w' = w := by
  go_enter Tryz.func20, Tryz.ntmps20
  go_wp2_with (first | (go_at_call 40; refine (ledger_account_nil a w).mono ?_; rintro e w' ⟨rfl, rfl⟩) | fail)
  exact bodyPost_ret (v := .int .i64 0) (by simp [results, Tryz.results20, go_sem]) rfl ⟨rfl, rfl⟩
end Go.Proofs.YteioacpfphigjaaGreat
end
