/-
  Joined texts.
-/
import Derived.WalkKit
import Derived.ProofKit
import Derived.OpenShut
import Derived.Carry
import Derived.Below
import Derived.ChangeOld
import Derived.ChangeArms
import Derived.Deep.Matrix
import Derived.Test.YtpkamfbjgdmmoaaGreatMgg

section
namespace Go.Proofs.YtpkamfbjgdmmoaaGreat
open Go.RowKit Go.Maps Go.Shelf
attribute [local go_sem] Oper.semAt_some
set_option linter.unusedVariables false
set_option linter.unusedSimpArgs false

/-- Votes in a track. -/
def tbal (P : Nat → Pl) (t : Int) (l : List (Int × Bal)) : List (Int × Bal) := l.filter (fun x => (P x.1.toNat).tr == t)
def ballots (S : Vs) (a t : Int) : List (Int × Bal) := tbal S.P t (rowOf S.V a)
theorem tbal_snoc (P : Nat → Pl) (t : Int) (l : List (Int × Bal)) (x : Int × Bal) : tbal P t (l ++ [x]) = tbal P t l ++ (if ((P x.1.toNat).tr == t) = true then [x] else []) := by
  unfold tbal
  rw [List.filter_append]
  by_cases h : ((P x.1.toNat).tr == t) = true <;> simp [h]
theorem tbal_prefix (P : Nat → Pl) (t : Int) {l m : List (Int × Bal)} (h : l <+: m) : tbal P t l <+: tbal P t m := h.filter _
theorem tbal_length (P : Nat → Pl) (t : Int) (l : List (Int × Bal)) : (tbal P t l).length ≤ l.length := List.length_filter_le _ _
/-- The polls' tracks. -/
def TrW (vb : Nat) (P : Nat → Pl) (W : World) : Prop := ∀ k, k < 12 → W.cell? ⟨vb, k * 6 + 1, none⟩ = some (.int .i64 (P k).tr)
theorem VoX.trw {vb N : Nat} {S : Vs} {F : FP} {w : World} (h : VoX vb N S F w) : TrW vb S.P w := fun k hk => (h.cells hk).2.1
theorem VoX.trw' {vb N : Nat} {S : Vs} {F : FP} {w : World} (h : VoX vb N S F w) (W : World) (hW : ∀ k, k < w.heap.size → k < w.heap.size ∧ W.heap[k]? = w.heap[k]?) : TrW vb S.P W := fun k hk => (World.cell?_of_block (hW vb (h.lt h.own)).2).trans (h.trw k hk)
theorem VoX.row {vb N : Nat} {S : Vs} {F : FP} {w : World} (h : VoX vb N S F w) (hlen : S.V.length ≤ 100000) {a : Int} (ha : (Lit.int .i64 a).wf = true) :
    ∃ gv, (∀ W, Below w.heap.size w W → W.cell? ⟨vb, 72, none⟩ = some (.pointer (some ⟨gv, 0, none⟩))) ∧ ∀ W, Below w.heap.size w W → Calls Tryz.prog 112 #[.pointer (some ⟨gv, 0, none⟩), .int .i64 a] W fun e w' => ∃ f, e = .returned f ∧ Way Tryz.prog encs_V f (rowOf S.V a) w' ∧ Below W.heap.size W w' := by
  obtain ⟨gv, gd, gw, gp, FV, FD, FW, FQ, h1, h2⟩ := h
  exact ⟨gv, fun W hb => (h1.below hb).blk.tables.1, fun W hb => grid_Row_V (h1.below hb).v hlen ha⟩
/-- What the loop within holds. -/
def BalI (Ψ Φ0 : FP) (W : World) (base yb lp : Nat) (P : Nat → Pl) (t : Int) (J : List (Int × Bal) → FP → World → Prop) (pre : List (Int × Bal)) (Φ : FP) (W' : World) : Prop :=
  ∃ Φo, J (tbal P t pre) Φo W' ∧ (∀ k, Φo k → Φ0 k ∨ base ≤ k) ∧ (∀ k, Φ k ↔ Φo k ∧ base ≤ k) ∧ Boxed W' yb 218 (.func (.yield lp) #[] #[]) ∧ Only Ψ Φ0 W W' ∧ base ≤ W'.heap.size
theorem BalI.stab {B base yb lp : Nat} {Ψ Φ0 : FP} {W : World} {P : Nat → Pl} {t : Int} {J : List (Int × Bal) → FP → World → Prop} (hJ : Stab B J) (hB : B ≤ base) (hy : yb < base) (hW : W.heap.size ≤ base) : Stab base (BalI Ψ Φ0 W base yb lp P t J) := by
  rintro pre Φ W' ⟨Φo, hj, ho, hi, hb1, hon, hs⟩
  obtain ⟨h1, h2, h3⟩ := hJ _ _ _ hj
  refine ⟨fun k hk => ⟨((hi k).1 hk).2, (h1 k ((hi k).1 hk).1).2⟩, hs, fun W'' hg hk => ⟨Φo, h3 W'' hg (fun k hk' => ?_), ho, hi, (hk yb (.inl hy)).trans hb1, ⟨hon.grow.trans hg, fun k hk' h4 h5 => (hk k (.inl (by omega))).trans (hon.block k hk' h4 h5)⟩, Nat.le_trans hs hg.size⟩⟩
  rcases hk' with h | h
  · exact hk k (.inl (by omega))
  · by_cases hb : k < base
    · exact hk k (.inl hb)
    · exact hk k (.inr ((hi k).2 ⟨h, by omega⟩))
/-- .. where it was left. -/
def BalX (Φ0 : FP) (base : Nat) (P : Nat → Pl) (t : Int) (Jx : List (Int × Bal) → FP → World → Prop) (c : Code) (pre : List (Int × Bal)) (Φ : FP) (W' : World) : Prop :=
  c = .ret ∧ ∃ Φo, Jx (tbal P t pre) Φo W' ∧ (∀ k, Φo k → Φ0 k ∨ base ≤ k) ∧ (∀ k, Φ k ↔ Φo k ∧ base ≤ k) ∧ base ≤ W'.heap.size
theorem BalX.stab {B base : Nat} {Φ0 : FP} {P : Nat → Pl} {t : Int} {J : List (Int × Bal) → FP → World → Prop} (hJ : Stab B J) (hB : B ≤ base) (c : Code) : Stab base (BalX Φ0 base P t J c) := by
  rintro pre Φ W' ⟨hcc, Φo, hj, ho, hi, hs⟩
  obtain ⟨h1, h2, h3⟩ := hJ _ _ _ hj
  refine ⟨fun k hk => ⟨((hi k).1 hk).2, (h1 k ((hi k).1 hk).1).2⟩, hs, fun W'' hg hk => ⟨hcc, Φo, h3 W'' hg (fun k hk' => ?_), ho, hi, Nat.le_trans hs hg.size⟩⟩
  rcases hk' with h | h
  · exact hk k (.inl (by omega))
  · by_cases hb : k < base
    · exact hk k (.inl hb)
    · exact hk k (.inr ((hi k).2 ⟨h, by omega⟩))
def balVal (x : Int × Bal) : Value := .agg #[.int .i64 x.2.k, .bool x.2.aye, .int .i64 x.2.l, .int .i64 x.2.a, .int .i64 x.2.n, .int .i64 x.2.s]

set_option maxHeartbeats 8000000 in
set_option maxRecDepth 100000 in
theorem ballots_iter (m : Nat) (bv ba bt vb N : Nat) (S : Vs) (F : FP) (who t : Int) (w : World) (hv : w.cell? ⟨bv, 0, none⟩ = some (.pointer (some ⟨vb, 0, none⟩))) (ha : w.cell? ⟨ba, 0, none⟩ = some (.int .i64 who)) (ht : w.cell? ⟨bt, 0, none⟩ = some (.int .i64 t))
    (h : VoX vb N S F w) (hlen : S.V.length ≤ 100000) (hwf : (Lit.int .i64 who).wf = true) (hrf : ∀ x ∈ rowOf S.V who, 0 ≤ x.1 ∧ x.1 < 12) (G0 : FP) (hG0 : ∀ k, F k → G0 k) :
    IterT Tryz.prog (m + 1) 111 #[.pointer (some ⟨bv, 0, none⟩), .pointer (some ⟨ba, 0, none⟩), .pointer (some ⟨bt, 0, none⟩)] encs_V (ballots S who t) (fun k => k = bv ∨ k = ba ∨ k = bt) G0 (TrW vb S.P) w := by
  intro lp B Ψ J Jx Φ0 W hgw hG hΨ hΦ0 hJ hJx hTr hround h0
  have hX : VoX vb N S F W := h.keep hgw (fun k hk => (hG k (.inr (hG0 k hk))).2)
  have cv : W.cell? ⟨bv, 0, none⟩ = some (.pointer (some ⟨vb, 0, none⟩)) := (World.cell?_of_block (hG bv (.inl (.inl rfl))).2).trans hv
  have ca : W.cell? ⟨ba, 0, none⟩ = some (.int .i64 who) := (World.cell?_of_block (hG ba (.inl (.inr (.inl rfl)))).2).trans ha
  have ct : W.cell? ⟨bt, 0, none⟩ = some (.int .i64 t) := (World.cell?_of_block (hG bt (.inl (.inr (.inr rfl)))).2).trans ht
  have lv : bv < W.heap.size := by have := (hG bv (.inl (.inl rfl))).1; have := hgw.size; omega
  have la : ba < W.heap.size := by have := (hG ba (.inl (.inr (.inl rfl)))).1; have := hgw.size; omega
  have lt : bt < W.heap.size := by have := (hG bt (.inl (.inr (.inr rfl)))).1; have := hgw.size; omega
  obtain ⟨W1, hW1⟩ : ∃ W1, W1 = W.alloc (.cells #[.func (.yield lp) #[] #[]] 218) := ⟨_, rfl⟩
  have hB1 : Below W.heap.size W W1 := by rw [hW1]; exact (Below.refl _ W).alloc (Nat.le_refl _) _
  have hs1' : W1.heap.size = W.heap.size + 1 := by rw [hW1]; simp
  have hby : Boxed W1 W.heap.size 218 (.func (.yield lp) #[] #[]) := by rw [hW1]; exact Boxed.new W _ _
  obtain ⟨gv, hgv, hrow⟩ := hX.row hlen hwf
  obtain ⟨hs1, hs2, hs3⟩ := hJ _ _ _ h0
  have mixed : Tryz.prog.follows .mixedOrders = true := by kernel_rfl
  have cv1 : W1.cell? ⟨bv, 0, none⟩ = some (.pointer (some ⟨vb, 0, none⟩)) := (World.cell?_of_block (hB1.block bv lv)).trans cv
  have ca1 : W1.cell? ⟨ba, 0, none⟩ = some (.int .i64 who) := (World.cell?_of_block (hB1.block ba la)).trans ca
  have cvd : W1.drew.cell? ⟨bv, 0, none⟩ = some (.pointer (some ⟨vb, 0, none⟩)) := cv1
  have cad : W1.drew.cell? ⟨ba, 0, none⟩ = some (.int .i64 who) := ca1
  have hgd := hgv W1.drew hB1.drew
  have hrowd := hrow W1.drew hB1.drew
  refine callsIn_of_wp_marks Tryz.func111 rfl trivial ?_ rfl
  simp only [Tryz.ntmps111, List.size_toArray, List.length_cons, List.length_nil, Nat.reduceAdd, Nat.reduceSub, Array.replicate_succ, Array.replicate_zero, List.push_toArray, List.append_toArray, List.nil_append, List.cons_append]
  have HW := Lib.hid (And.intro hB1 (And.intro hby hs1'))
  have HW1 := Lib.hid hW1
  have HROW := Lib.hid hrowd
  have HRD := Lib.hid hround
  have HJ := Lib.hid (And.intro hJ hJx)
  have HP := Lib.hid hΨ
  have HP0 := Lib.hid hΦ0
  have HT := Lib.hid hTr
  have HH0 := Lib.hid h0
  have HS3 := Lib.hid hs3
  have HS1 := Lib.hid hs1
  have HC := Lib.hid (And.intro cv (And.intro ct (And.intro lv (And.intro la lt))))
  have HRF := Lib.hid hrf
  clear hB1 hby hs1' hX hrow hrowd hround hJ hJx hG hΨ hΦ0 h0 hs1 hs3 h hlen hv ha ht hTr hG0 hrf cv ca ct hwf hgv
  rw [hW1] at cv1
  gi_upto_region 2 with fail
  rw [← HW1.out]
  clear hW1 cv1 ca1
  refine wpIn_region_still_tail 5 mixed (by kernel_rfl) ?_
  simp only [List.take_succ_cons, List.take_zero, List.drop_succ_cons, List.drop_zero]
  change wpStill _ _ W1.drew _ _ _
  repeat still_step
  refine wpStill_nil ?_
  change wpListIn _ _ _ _ _ _ _ W1.drew
  gi_wp2_with (first
    | (gi_at_call 112; refine (callsIn_wide.2 HROW.out).mono ?_; rintro e w2 ⟨f, rfl, hway, hb⟩; obtain ⟨gf, lb, rfl, hit⟩ := hway; have H2 := Lib.hid (And.intro hit hb); clear hit hb)
    | (refine ⟨trivial, ?_⟩; gi_at_call 112; refine (callsIn_wide.2 HROW.out).mono ?_; rintro e w2 ⟨f, rfl, hway, hb⟩; obtain ⟨gf, lb, rfl, hit⟩ := hway; have H2 := Lib.hid (And.intro hit hb); clear hit hb)
    | fail)
  obtain ⟨hB1, hby, hs1'⟩ := HW.out
  obtain ⟨hit, hb2⟩ := H2.out
  obtain ⟨cv, ct, lv', la', lt'⟩ := HC.out
  have hb2' : Below W1.heap.size W1 w2 := ((Below.refl _ W1).drew).trans (show Below W1.heap.size W1.drew w2 from hb2)
  have hs2' : W1.heap.size ≤ w2.heap.size := hb2'.size
  have hbW : Below W.heap.size W w2 := hB1.trans (hb2'.mono hB1.size)
  have hyb2 : Boxed w2 W.heap.size 218 (.func (.yield lp) #[] #[]) := (hb2'.block _ (by omega)).trans hby
  have hJ2 : J [] Φ0 w2 := HS3.out w2 (Grow.of_below hbW) (fun k hk => hbW.block k (hk.elim (fun h => by omega) (fun h => (HS1.out k h).2)))
  have hOW : Only Ψ Φ0 W w2 := Only.of_later hbW
  have HF := Lib.hid (And.intro hJ2 (And.intro hOW (And.intro hyb2 hbW)))
  have hsz2 : W.heap.size + 1 ≤ w2.heap.size := by omega
  clear hB1 hby hb2 hb2' hbW hyb2 hJ2 hOW cv ct lv' la' lt' cvd cad hgd
  refine range_outerA (n := m) (gf := gf) (lb := lb) rfl hit.1 (hit.2 m) (Grow.refl w2) (fun k hk => ⟨hk, rfl⟩) (fun _ => rfl)
    (fun k => Ψ k ∨ Φ0 k) ?hpsi (BalI Ψ Φ0 W w2.heap.size W.heap.size lp S.P t J) (BalX Φ0 w2.heap.size S.P t Jx) (BalI.stab HJ.out.1 (by omega) (by omega) (by omega)) (fun c => BalX.stab HJ.out.2 (by omega) c)
    ?h0 (fun x N => { tmps := #[.func (.yield lp) #[] #[], .pointer (some ⟨bv, 0, none⟩), .pointer (some ⟨ba, 0, none⟩), .pointer (some ⟨bt, 0, none⟩), .pointer (some ⟨W.heap.size, 0, none⟩), .int .i64 x.1, .pointer (some ⟨N, 0, none⟩), .pointer (some ⟨vb, 0, none⟩), .bool false, .pointer (some ⟨vb, 0, none⟩), .pointer (some ⟨vb, 0, none⟩), .pointer (some ⟨vb, 72, none⟩), .pointer (some ⟨gv, 0, none⟩), .int .i64 who, .func (.func gf) #[] lb, .int .i64 x.1, balVal x, undef, undef, undef, undef, undef, undef, undef, undef, undef, undef, undef, undef, undef, undef, undef, undef], defers := [] })
    (fun x N W => W.heap[N]? = some (.cells #[.int .i64 x.2.k, .bool x.2.aye, .int .i64 x.2.l, .int .i64 x.2.a, .int .i64 x.2.n, .int .i64 x.2.s] 47 (0, 0))) (fun x N W W' h e => e.trans h) ?assign ?body ?done ?stop
  case hpsi =>
    intro k hk
    rcases hk with h | h
    · have := (HP.out k h).1; omega
    · have := (HS1.out k h).2; omega
  case h0 => exact ⟨Φ0, HF.out.1, fun k h => .inl h, fun k => ⟨fun h => h.elim, fun h => by have := (HS1.out k h.1).2; omega⟩, HF.out.2.2.1, HF.out.2.1, Nat.le_refl _⟩
  case assign =>
    intro l x W K hK
    simp only [encs_V]
    gi_wp2
    exact hK _ ((Below.refl _ W).alloc (Nat.le_refl _) _) (by simp) (World.alloc_heap_new _ _)
  case body =>
    rintro l pre x Φi N W' hpx ⟨Φo, hj, ho, hi, hbY, hon, hsz⟩ hl hΦl ⟨r, hr⟩ hlN hNW hAt
    have hxm : x ∈ rowOf S.V who := hpx.subset (by simp)
    obtain ⟨x0, x1⟩ := HRF.out x hxm
    obtain ⟨rf, hrf⟩ : ∃ rf : Nat, x.1 = rf := ⟨x.1.toNat, by omega⟩
    have hrl : rf < 12 := by omega
    have hrlI : (rf : Int) < 12 := by omega
    have htw := HT.out _ _ _ hj hon rf hrl
    obtain ⟨cv, ct, lv', la', lt'⟩ := HC.out
    have hgk : ∀ k, (k = bv ∨ k = ba ∨ k = bt) → k < W.heap.size → W'.heap[k]? = W.heap[k]? := fun k hk hkl => hon.block k hkl (fun h => (HP.out k h).2 hk) (fun h => HP0.out k h hk)
    have cv' : W'.cell? ⟨bv, 0, none⟩ = some (.pointer (some ⟨vb, 0, none⟩)) := (World.cell?_of_block (hgk bv (.inl rfl) lv')).trans cv
    have ct' : W'.cell? ⟨bt, 0, none⟩ = some (.int .i64 t) := (World.cell?_of_block (hgk bt (.inr (.inr rfl)) lt')).trans ct
    have cvd : W'.drew.cell? ⟨bv, 0, none⟩ = some (.pointer (some ⟨vb, 0, none⟩)) := cv'
    have ctd : W'.drew.cell? ⟨bt, 0, none⟩ = some (.int .i64 t) := ct'
    have htd : W'.drew.cell? ⟨vb, rf * 6 + 1, none⟩ = some (.int .i64 (S.P rf).tr) := htw
    have hyd : W'.drew.cell? ⟨W.heap.size, 0, none⟩ = some (.func (.yield lp) #[] #[]) := hbY.cell
    have hN0 : W'.drew.cell? ⟨N, 0, none⟩ = some (.int .i64 x.2.k) := by rw [World.cell?, show W'.drew.heap[N]? = _ from hAt]; rfl
    have hN1 : W'.drew.cell? ⟨N, 1, none⟩ = some (.bool x.2.aye) := by rw [World.cell?, show W'.drew.heap[N]? = _ from hAt]; rfl
    have hN2 : W'.drew.cell? ⟨N, 2, none⟩ = some (.int .i64 x.2.l) := by rw [World.cell?, show W'.drew.heap[N]? = _ from hAt]; rfl
    have hN3 : W'.drew.cell? ⟨N, 3, none⟩ = some (.int .i64 x.2.a) := by rw [World.cell?, show W'.drew.heap[N]? = _ from hAt]; rfl
    have hN4 : W'.drew.cell? ⟨N, 4, none⟩ = some (.int .i64 x.2.n) := by rw [World.cell?, show W'.drew.heap[N]? = _ from hAt]; rfl
    have hN5 : W'.drew.cell? ⟨N, 5, none⟩ = some (.int .i64 x.2.s) := by rw [World.cell?, show W'.drew.heap[N]? = _ from hAt]; rfl
    obtain ⟨tk, htk⟩ : ∃ tk, tk = (S.P rf).tr := ⟨_, rfl⟩
    rw [← htk] at htd
    have hsn := tbal_snoc S.P t pre x
    rw [hrf, Int.toNat_natCast, ← htk] at hsn
    have hpf := tbal_prefix S.P t hpx
    obtain ⟨q1, q2, q3⟩ := HJ.out.1 _ _ _ hj
    have hjd : J (tbal S.P t pre) Φo W'.drew := q3 W'.drew ⟨rfl, rfl, rfl, Nat.le_refl _⟩ (fun _ _ => rfl)
    have hond : Only Ψ Φ0 W W'.drew := hon.trans (Only.of_later (Φ := Φo) (Below.refl _ W').drew) (fun k hk => (ho k hk).imp id (fun h => by omega))
    have HBY := Lib.hid hbY
    have HHO := Lib.hid ho
    have HHI := Lib.hid hi
    have HON := Lib.hid hond
    have HJD := Lib.hid hjd
    have HQ1 := Lib.hid q1
    have HPF := Lib.hid hpf
    clear hj ho hi hbY hon hxm htw cv ct lv' la' lt' hgk cv' ct' hpx hpf q1 q3 hjd hond hit x0 x1 hAt
    unfold balVal
    rw [hrf]
    cases hq : (tk == t) with
    | true =>
      rw [hq, if_pos rfl] at hsn
      have hpre : tbal S.P t pre ++ [x] <+: ballots S who t := by rw [← hsn]; exact HPF.out
      obtain ⟨fn, tm, asg, bd, hyy, hR⟩ := HRD.out _ x Φo W'.drew hpre HJD.out
      simp only [encs_V, hrf] at hyy
      have HSN := Lib.hid hsn
      have HRR := Lib.hid hR
      clear hpre hR hsn htk
      gi_upto_region 5 with fail
      refine wpIn_region_still_tailR 13 mixed (by kernel_rfl) (by kernel_rfl) ?_
      simp only [List.take_succ_cons, List.take_zero, List.drop_succ_cons, List.drop_zero]
      change wpStill _ _ W'.drew _ _ _
      repeat still_step
      refine wpStill_nil ?_
      change wpListIn _ _ _ _ _ _ _ W'.drew
      gi_wp2
      refine ⟨fun h => by simp [Fence.wide] at h, (RoundIn.inAny HRR.out).mono ?_⟩
      rintro e W3 ⟨Φo', hn, hon', (⟨rfl, hJ'⟩ | ⟨rfl, hJ'⟩)⟩
      · have hno : ∀ k, Φo' k → Φ0 k ∨ w2.heap.size ≤ k := fun k hk => (hn k hk).elim (HHO.out k) (fun h => .inr (by have : W'.heap.size ≤ k := h; omega))
        have hz3 : W'.heap.size ≤ W3.heap.size := hon'.grow.size
        have hyn : ¬ Ψ W.heap.size ∧ ¬ Φo W.heap.size := ⟨fun h => by have := (HP.out _ h).1; omega, fun h => (HHO.out _ h).elim (fun h => by have := (HS1.out _ h).2; omega) (fun h => by omega)⟩
        have hbY3 : Boxed W3 W.heap.size 218 (.func (.yield lp) #[] #[]) := (hon'.block _ (by show W.heap.size < W'.heap.size; omega) hyn.1 hyn.2).trans HBY.out
        gi_wp2
        refine ⟨fun k => Φo' k ∧ w2.heap.size ≤ k, fun k hk => (hn k hk.1).elim (fun h => .inl ((HHI.out k).2 ⟨h, hk.2⟩)) .inr, Only.undrew ⟨hon'.grow, fun k hk h1 h2 => ?_⟩, Φo', by rw [HSN.out]; exact hJ', hno, fun k => Iff.rfl, hbY3, HON.out.trans hon' (fun k hk => (HHO.out k hk).imp id (fun h => by omega)), by omega⟩
        refine hon'.block k hk (fun h => h1 (.inl h)) (fun h => ?_)
        rcases HHO.out k h with h' | h'
        · exact h1 (.inr h')
        · exact h2 ((HHI.out k).2 ⟨h, h'⟩)
      · have hno : ∀ k, Φo' k → Φ0 k ∨ w2.heap.size ≤ k := fun k hk => (hn k hk).elim (HHO.out k) (fun h => .inr (by have : W'.heap.size ≤ k := h; omega))
        have hz3 : W'.heap.size ≤ W3.heap.size := hon'.grow.size
        gi_wp2
        refine ⟨fun k => Φo' k ∧ w2.heap.size ≤ k, fun k hk => (hn k hk.1).elim (fun h => .inl ((HHI.out k).2 ⟨h, hk.2⟩)) .inr, Only.undrew ⟨hon'.grow, fun k hk h1 h2 => ?_⟩, rfl, Φo', by rw [HSN.out]; exact hJ', hno, fun k => Iff.rfl, by omega⟩
        refine hon'.block k hk (fun h => h1 (.inl h)) (fun h => ?_)
        rcases HHO.out k h with h' | h'
        · exact h1 (.inr h')
        · exact h2 ((HHI.out k).2 ⟨h, h'⟩)
    | false =>
      rw [hq, if_neg (by decide), List.append_nil] at hsn
      obtain ⟨q, hqq⟩ : ∃ q, q = false := ⟨_, rfl⟩
      rw [← hqq] at hq
      have HQ := Lib.hid hqq
      have HSN := Lib.hid hsn
      clear hsn htk hqq
      gi_upto_region 5 with fail
      refine wpIn_region_still_tailR 13 mixed (by kernel_rfl) (by kernel_rfl) ?_
      simp only [List.take_succ_cons, List.take_zero, List.drop_succ_cons, List.drop_zero]
      change wpStill _ _ W'.drew _ _ _
      iterate 10 still_step
      refine wpStill_skipS (j := 9) (b := q) (t := true) ?_ ?_ ?_ HQ.out ?_
      rfl
      rfl
      kernel_rfl
      refine wpStill_skipS (j := 9) (b := q) (t := true) ?_ ?_ ?_ HQ.out ?_
      rfl
      rfl
      kernel_rfl
      refine wpStill_skipS (j := 9) (b := q) (t := true) ?_ ?_ ?_ HQ.out ?_
      rfl
      rfl
      kernel_rfl
      refine wpStill_nil ?_
      change wpListIn _ _ _ _ _ _ _ W'.drew
      refine wpListIn_skipS (j := 9) (b := q) (t := true) ?_ ?_ ?_ HQ.out ?_
      rfl
      rfl
      kernel_rfl
      refine wpListIn_skipS (j := 9) (b := q) (t := true) ?_ ?_ ?_ HQ.out ?_
      rfl
      rfl
      kernel_rfl
      have hqq := HQ.out
      subst hqq
      gi_wp2
      refine ⟨Φi, fun k hk => .inl hk, Only.of_later (Below.refl _ W').drew, Φo, by rw [HSN.out]; exact HJD.out, HHO.out, HHI.out, HBY.out, HON.out, hsz⟩
  case done =>
    rintro D Φi W3 ⟨Φo, hj, ho, hi, hbY, hon, hsz⟩ hon2 hD hnD hK
    have hnDo : ¬ Φo D := fun h => hnD ((hi D).2 ⟨h, hD⟩)
    have HD := Lib.hid (And.intro hj (And.intro ho (And.intro hon (And.intro hK hnDo))))
    clear hj ho hi hbY hon hon2 hK hnD hit
    gi_wp2
    obtain ⟨hj, ho, hon, hK, hnDo⟩ := HD.out
    refine marks_leave [D] W3 (by simp) (fun d hd => ?_) (fun w' hg hk => ⟨_, results_none rfl _ _ _, ⟨_, rfl⟩, ?_⟩)
    · simp only [List.mem_cons, List.not_mem_nil, or_false] at hd
      subst hd; exact hK
    · refine ⟨Φo, fun j hj => (ho j hj).imp id (fun h => by omega), ⟨hon.grow.trans hg, fun k hk' h1 h2 => (hk k (by simp; omega)).trans (hon.block k hk' h1 h2)⟩, .inl ((HJ.out.1 _ _ _ hj).2.2 w' hg (fun k hk' => hk k ?_))⟩
      simp only [List.mem_cons, List.not_mem_nil, or_false]
      rintro rfl
      rcases hk' with h | h
      · omega
      · exact hnDo h
  case stop =>
    rintro D Φi c pre W3 hpre ⟨rfl, Φo, hj, ho, hi, hsz⟩ hon2 hD hnD hK
    have hnDo : ¬ Φo D := fun h => hnD ((hi D).2 ⟨h, hD⟩)
    have hon : Only Ψ Φ0 W W3 := HF.out.2.1.trans (Φ' := Φ0) ⟨hon2.grow, fun k hk h1 h2 => hon2.block k hk (fun h => h.elim h1 h2) (fun h => h)⟩ (fun k hk => .inl hk)
    have HD := Lib.hid (And.intro hj (And.intro ho (And.intro hon (And.intro hK (And.intro hnDo (tbal_prefix S.P t hpre))))))
    clear hj ho hi hon hon2 hK hnD hit
    gi_wp2
    obtain ⟨hj, ho, hon, hK, hnDo, hpf⟩ := HD.out
    refine marks_leave [D] W3 (by simp) (fun d hd => ?_) (fun w' hg hk => ⟨_, results_none rfl _ _ _, ⟨_, rfl⟩, ?_⟩)
    · simp only [List.mem_cons, List.not_mem_nil, or_false] at hd
      subst hd; exact hK
    · refine ⟨Φo, fun j hj => (ho j hj).imp id (fun h => by omega), ⟨hon.grow.trans hg, fun k hk' h1 h2 => (hk k (by simp; omega)).trans (hon.block k hk' h1 h2)⟩, .inr ⟨_, hpf, (HJ.out.2 _ _ _ hj).2.2 w' hg (fun k hk' => hk k ?_)⟩⟩
      simp only [List.mem_cons, List.not_mem_nil, or_false]
      rintro rfl
      rcases hk' with h | h
      · omega
      · exact hnDo h
end Go.Proofs.YtpkamfbjgdmmoaaGreat
end

section
namespace Go.Proofs.YtpkamfbjgdmmoaaGreat
open Go.RowKit Go.Maps Go.Shelf
attribute [local go_sem] Oper.semAt_some
set_option linter.unusedVariables false
set_option linter.unusedSimpArgs false

section
variable {P : Program} {α : Type}
/-- A range that is never left, whatever stands in the frame. -/
theorem range_outerWI {n : Nat} {g : Operand} {ps : Array Tmp} {assign body : Code} {Q : Exit → Act → World → Prop} {a : Act} {w : World} {gf : Nat} {lb : Array Value} (hg : a.eval g = .func (.func gf) #[] lb) (eg : ∀ args w, (callFunc gf args).run P w = .ok (.enter gf args) w)
    {encs : α → Array Value} {xs : List α} {G : FP} {w0 : World} (hit : Iter P n gf lb encs xs G w0) (hg0 : Grow w0 w) (hG : ∀ k, G k → k < w0.heap.size ∧ w.heap[k]? = w0.heap[k]?) (hps : ∀ x, (encs x).size = ps.size)
    (Ψ : FP) (hΨ : ∀ k, Ψ k → k < w.heap.size ∧ ¬ G k) (I : List α → FP → World → Prop) (hI : Stab w.heap.size I) (h0 : I [] (fun _ => False) w) (up : α → Array Value → Array Value)
    (hassign : ∀ (l : Nat) (x : α) (W : World) (K : Act → World → Prop), K { tmps := up x a.tmps, defers := [] } W → assign.wpIn (Fence.wide.inRound l) n P (Exit.then K (fun _ _ _ => False)) { tmps := (ps.zip (encs x)).foldl (fun t (p, v) => t.setIfInBounds p v) a.tmps, defers := [] } W)
    (hbody : ∀ (l : Nat) (pre : List α) (x : α) (Φ : FP) (W : World), (pre ++ [x]) <+: xs → I pre Φ W → w.heap.size < l → (∀ k, Φ k → l + 1 ≤ k) → (∃ r, W.heap[l]? = some (.loop r)) → body.wpIn (Fence.wide.inRound l) n P (bodyI Ψ Φ I (fun _ _ _ _ => False) (pre ++ [x]) W) { tmps := up x a.tmps, defers := [] } W)
    (hdone : ∀ (D : Nat) (Φ : FP) (W : World), I xs Φ W → Only Ψ (fun _ => False) w W → w.heap.size ≤ D → ¬ Φ D → W.heap[D]? = some (.deferred (some [])) → Q .normal { a with defers := { target := .collected D, args := #[] } :: a.defers } W) :
    (Code.rangeFunc g ps assign body).wpIn Fence.wide (n + 2) P Q a w :=
  range_outer hg eg hit hg0 hG hps Ψ hΨ I (fun _ _ _ _ => False) hI (fun c _ _ _ h => h.elim) h0 (fun x => { tmps := up x a.tmps, defers := [] }) hassign hbody hdone (fun D Φ c pre W _ h => h.elim)
end
theorem enters_ballots1 : ∀ args w, (callFunc 111 args).run Tryz.prog w = .ok (.enter 111 args) w := enters_of Tryz.func111 (by kernel_rfl) rfl
theorem voting_ballots (p : Option Addr) (a t : Int) (w : World) : Calls Tryz.prog 86 #[.pointer p, .int .i64 a, .int .i64 t] w fun e w' => e = .returned (.func (.func 111) #[] #[.pointer (some ⟨w.heap.size, 0, none⟩), .pointer (some ⟨w.heap.size + 1, 0, none⟩), .pointer (some ⟨w.heap.size + 1 + 1, 0, none⟩)]) ∧ w' = ((w.alloc (.cells #[.pointer p] 34)).alloc (.cells #[.int .i64 a] 3)).alloc (.cells #[.int .i64 t] 3) := by
  go_enter Tryz.func86, Tryz.ntmps86
  go_wp2
  go_ret
  exact ⟨rfl, rfl⟩
/-- What ballots gives: a way that reads the polls' tracks as it goes. -/
def BalWay (vb : Nat) (S : Vs) (F : FP) (a t : Int) (w : World) (e : Ending) (w' : World) : Prop :=
  e = .returned (.func (.func 111) #[] #[.pointer (some ⟨w.heap.size, 0, none⟩), .pointer (some ⟨w.heap.size + 1, 0, none⟩), .pointer (some ⟨w.heap.size + 1 + 1, 0, none⟩)]) ∧ Below w.heap.size w w' ∧ w'.heap.size = w.heap.size + 3 ∧
    (∀ m, IterT Tryz.prog (m + 1) 111 #[.pointer (some ⟨w.heap.size, 0, none⟩), .pointer (some ⟨w.heap.size + 1, 0, none⟩), .pointer (some ⟨w.heap.size + 1 + 1, 0, none⟩)] encs_V (ballots S a t) (fun k => k = w.heap.size ∨ k = w.heap.size + 1 ∨ k = w.heap.size + 1 + 1) F (TrW vb S.P) w') ∧
    (∀ m, Iter Tryz.prog (m + 1) 111 #[.pointer (some ⟨w.heap.size, 0, none⟩), .pointer (some ⟨w.heap.size + 1, 0, none⟩), .pointer (some ⟨w.heap.size + 1 + 1, 0, none⟩)] encs_V (ballots S a t) (fun k => F k ∨ k = w.heap.size ∨ k = w.heap.size + 1 ∨ k = w.heap.size + 1 + 1) w')
theorem VoX.balWay {vb N : Nat} {S : Vs} {F : FP} {w : World} (h : VoX vb N S F w) (hlen : S.V.length ≤ 100000) {a : Int} (ha : (Lit.int .i64 a).wf = true) (hrf : ∀ x ∈ rowOf S.V a, 0 ≤ x.1 ∧ x.1 < 12) (t : Int) :
    Calls Tryz.prog 86 #[.pointer (some ⟨vb, 0, none⟩), .int .i64 a, .int .i64 t] w (BalWay vb S F a t w) := by
  refine (voting_ballots _ a t w).mono ?_
  rintro e w' ⟨he, hw'⟩
  have hB : Below w.heap.size w w' := by rw [hw']; exact (((Below.refl _ w).alloc (Nat.le_refl _) _).alloc (by simp) _).alloc (by simp; omega) _
  have hsz : w'.heap.size = w.heap.size + 3 := by rw [hw']; simp
  have b0 : Boxed w' w.heap.size 34 (.pointer (some ⟨vb, 0, none⟩)) := by rw [hw']; exact ((Boxed.new w _ _).alloc _).alloc _
  have b1 : Boxed w' (w.heap.size + 1) 3 (.int .i64 a) := by
    have := Boxed.new (w.alloc (.cells #[.pointer (some ⟨vb, 0, none⟩)] 34)) 3 (.int .i64 a)
    rw [World.size_alloc] at this
    rw [hw']; exact this.alloc _
  have b2 : Boxed w' (w.heap.size + 1 + 1) 3 (.int .i64 t) := by
    have := Boxed.new ((w.alloc (.cells #[.pointer (some ⟨vb, 0, none⟩)] 34)).alloc (.cells #[.int .i64 a] 3)) 3 (.int .i64 t)
    rw [World.size_alloc, World.size_alloc] at this
    rw [hw']; exact this
  have hX := h.below hB
  have hit := fun m => ballots_iter m w.heap.size (w.heap.size + 1) (w.heap.size + 1 + 1) vb N S F a t w' b0.cell b1.cell b2.cell hX hlen ha hrf F (fun k hk => hk)
  exact ⟨he, hB, hsz, hit, fun m => (hit m).iter (fun k hk => hk.elim .inr .inl) (fun W hW k hk => (World.cell?_of_block (hW vb (.inl hX.own)).2).trans (hX.trw k hk))⟩
/-- What count's range holds. -/
def CntJ (N0 nb : Nat) (pre : List (Int × Bal)) (Φ : FP) (W : World) : Prop := (∀ k, ¬ Φ k) ∧ Boxed W nb 3 (.int .i64 (pre.length : Int)) ∧ N0 ≤ W.heap.size
theorem CntJ.stab {N0 gb : Nat} (h1 : gb < N0) : Stab N0 (CntJ N0 gb) := by
  rintro pre Φ W ⟨h0, h, hs⟩
  exact ⟨fun k hk => (h0 k hk).elim, hs, fun W' hg hk => ⟨h0, (hk gb (.inl h1)).trans h, Nat.le_trans hs hg.size⟩⟩
set_option maxHeartbeats 4000000 in
set_option maxRecDepth 100000 in
theorem VoX.count {vb N : Nat} {S : Vs} {F : FP} {w : World} (h : VoX vb N S F w) (hlen : S.V.length ≤ 100000) {a : Int} (ha : (Lit.int .i64 a).wf = true) (hrf : ∀ x ∈ rowOf S.V a, 0 ≤ x.1 ∧ x.1 < 12) (t : Int) :
    Calls Tryz.prog 49 #[.pointer (some ⟨vb, 0, none⟩), .int .i64 a, .int .i64 t] w fun e w' => e = .returned (.int .i64 ((ballots S a t).length : Int)) ∧ Below w.heap.size w w' := by
  have hll : (ballots S a t).length ≤ 100000 := Nat.le_trans (tbal_length _ _ _) (Nat.le_trans (row_length _ _) hlen)
  obtain ⟨w1, hw1⟩ : ∃ w1, w1 = w.alloc (.cells #[.int .i64 0] 3) := ⟨_, rfl⟩
  have hb1 : Below w.heap.size w w1 := by rw [hw1]; exact (Below.refl _ w).alloc (Nat.le_refl _) _
  have x0 : Boxed w1 w.heap.size 3 (.int .i64 0) := by rw [hw1]; exact Boxed.new w _ _
  have hs1 : w1.heap.size = w.heap.size + 1 := by rw [hw1]; simp
  have hbal := (h.below hb1).balWay hlen ha hrf t
  refine (callsIn_wide (n := 3)).1 ?_
  refine callsIn_of_wp_marks Tryz.func49 rfl trivial ?_ rfl
  simp only [Tryz.ntmps49, List.size_toArray, List.length_cons, List.length_nil, Nat.reduceAdd, Nat.reduceSub, Array.replicate_succ, Array.replicate_zero, List.push_toArray, List.append_toArray, List.nil_append, List.cons_append]
  obtain ⟨xs, hxs⟩ : ∃ xs, xs = ballots S a t := ⟨_, rfl⟩
  unfold BalWay at hbal
  rw [← hxs] at hbal hll ⊢
  have HW1 := Lib.hid hw1
  have H1 := Lib.hid (And.intro hb1 (And.intro x0 hs1))
  have HB := Lib.hid hbal
  have HL := Lib.hid hll
  have HFL := Lib.hid (show ∀ k, F k → k < w.heap.size from fun k hk => h.lt hk)
  clear hw1 hb1 x0 hs1 hbal h hlen ha hrf hll hxs
  gi_wp2_with (first
    | (refine ⟨trivial, ?_⟩; gi_at_call 86; rw [← HW1.out]; refine (callsIn_wide.2 HB.out).mono ?_; rintro e w2 ⟨rfl, hb, hs2, -, hit⟩; have H2 := Lib.hid (And.intro hit (And.intro hb hs2)); clear hit hb hs2)
    | fail)
  obtain ⟨gb, hgb⟩ : ∃ gb, gb = w.heap.size := ⟨_, rfl⟩
  obtain ⟨hb1, x0, hs1⟩ := H1.out
  rw [← hgb] at x0 hs1 ⊢
  obtain ⟨hit, hb2, hs2⟩ := H2.out
  have x2 : Boxed w2 gb 3 (.int .i64 (([] : List (Int × Bal)).length : Int)) := (hb2.block gb (by omega)).trans x0
  have hgl : gb < w2.heap.size := by omega
  have hFl := HFL.out
  have hGl : ∀ k, (F k ∨ k = w1.heap.size ∨ k = w1.heap.size + 1 ∨ k = w1.heap.size + 1 + 1) → k < w2.heap.size ∧ k ≠ gb := fun k hk => by
    rcases hk with h | h
    · have := hFl k h; omega
    · omega
  have HGB := Lib.hid hgb
  clear hgb hFl
  refine range_outerWI (n := 1) (gf := 111) rfl enters_ballots1 (hit 0) (Grow.refl w2) (fun k hk => ⟨(hGl k hk).1, rfl⟩) (fun _ => rfl)
    (fun k => k = gb) (by rintro k rfl; exact ⟨hgl, fun h => (hGl _ h).2 rfl⟩) (CntJ w2.heap.size gb) (CntJ.stab hgl) ⟨fun _ h => h, x2, Nat.le_refl _⟩
    (fun x T => (T.setIfInBounds 12 (.int .i64 x.1)).setIfInBounds 13 (balVal x)) ?assign ?body ?done
  case assign =>
    intro l x W K hK
    simp only [encs_V]
    clear hs1 hs2 hGl hit
    gi_wp2
    exact hK
  case body =>
    rintro l pre x Φ W hpx ⟨hno, hbx, hsz⟩ hl hΦ -
    have hpl := hpx.length_le
    rw [List.length_append, List.length_singleton] at hpl
    have hpl2 : pre.length < 100000 := by have := HL.out; omega
    have c1 := hbx.cell
    have f1 := hbx.frozen
    have e1 : ((pre ++ [x]).length : Int) = (pre.length : Int) + 1 := by simp
    obtain ⟨n, hn⟩ : ∃ n, n = pre.length := ⟨_, rfl⟩
    rw [← hn] at c1 hbx e1 hpl2
    have hset : Boxed (W.setCell ⟨gb, 0, none⟩ (.int .i64 ((n : Int) + 1))) gb 3 (.int .i64 ((n : Int) + 1)) := hbx.set _
    have hw : IntKind.i64.wrap ((n : Int) + 1) = (n : Int) + 1 := IntWalk.i64_in _ (by omega)
    have HS := Lib.hid (And.intro hset (And.intro hno (And.intro hsz e1)))
    clear hbx hset hno hsz e1 hn hpx hpl hit hGl
    gi_wp2_with fail
    obtain ⟨hset, hno, hsz, e1⟩ := HS.out
    exact ⟨Φ, fun k h => .inl h, ⟨⟨rfl, rfl, rfl, by simp [World.setCell]⟩, fun k hk h1 h2 => Below.heap_setCell _ _ _ k h1⟩, hno, by rw [e1]; exact hset, by simp [World.setCell]; exact hsz⟩
  case done =>
    rintro D Φ W3 ⟨hno, hbx, hsz⟩ hon hD hnD hK
    have c1 := hbx.cell
    have HD := Lib.hid (And.intro hno (And.intro hon (And.intro hD hK)))
    clear hno hbx hon hD hK hnD hit hGl
    gi_wp2_with fail
    obtain ⟨hno, hon, hD, hK⟩ := HD.out
    have hgb := HGB.out
    refine marks_leave [D] W3 (by simp) (fun d hd => ?_) (fun w' hg hk => ⟨.int .i64 (xs.length : Int), by simp [results, Tryz.results49, go_sem], rfl, ?_⟩)
    · simp only [List.mem_cons, List.not_mem_nil, or_false] at hd
      subst hd; exact hK
    · have hg0 : Grow w w' := ((Grow.of_below hb1).trans (Grow.of_below hb2)).trans (hon.grow.trans hg)
      refine ⟨hg0.os, hg0.tape, hg0.output, hg0.size, fun j hj => ?_⟩
      rw [hk j (by simp; omega), hon.block j (by omega) (by omega) (fun h => h), hb2.block j (by omega)]
      exact hb1.block j hj
end Go.Proofs.YtpkamfbjgdmmoaaGreat
end

section
namespace Go.Proofs.YtpkamfbjgdmmoaaGreat
open Go.RowKit Go.Maps Go.Shelf
set_option linter.unusedVariables false
set_option linter.unusedSimpArgs false

def wonB (st : Int) (x : Bal) : Bool := if x.k = 1 then (if x.aye then st == 2 else st == 3) else false
set_option maxRecDepth 100000 in
theorem VoX.won {vb N : Nat} {S : Vs} {F : FP} {w : World} (h : VoX vb N S F w) {k : Nat} (hk : k < 12) (x : Bal) :
    Calls Tryz.prog 63 #[.pointer (some ⟨vb, k * 6, none⟩), .agg (balS.f x).toArray] w fun e w' => e = .returned (.bool (wonB (S.P k).st x)) ∧ Below w.heap.size w w' := by
  obtain ⟨xk, xy, xl, xa, xn, xs⟩ := x
  obtain ⟨w1, hw1⟩ : ∃ w1, w1 = w.alloc (.cells #[.int .i64 xk, .bool xy, .int .i64 xl, .int .i64 xa, .int .i64 xn, .int .i64 xs] 47) := ⟨_, rfl⟩
  have hb1 : Below w.heap.size w w1 := by rw [hw1]; exact (Below.refl _ w).alloc (Nat.le_refl _) _
  have c0 := ((h.below hb1).cells hk).1
  have hr : w1.rangeAt w.heap.size 0 (balS.f ⟨xk, xy, xl, xa, xn, xs⟩) := by rw [hw1]; exact rangeAt_whole (T := balS.T) (World.alloc_heap_new _ _)
  have d0 : w1.cell? ⟨w.heap.size, 0, none⟩ = some (.int .i64 xk) := hr 0 _ rfl
  have d1 : w1.cell? ⟨w.heap.size, 1, none⟩ = some (.bool xy) := hr 1 _ rfl
  obtain ⟨st, hst⟩ : ∃ st, st = (S.P k).st := ⟨_, rfl⟩
  rw [← hst] at c0 ⊢
  rw [show (balS.f ⟨xk, xy, xl, xa, xn, xs⟩).toArray = #[.int .i64 xk, .bool xy, .int .i64 xl, .int .i64 xa, .int .i64 xn, .int .i64 xs] from rfl]
  have HB := Lib.hid hb1
  have HW := Lib.hid hw1
  clear hr hst h hb1
  go_enter Tryz.func63, Tryz.ntmps63
  go_upto_region 1 with fail
  rw [← HW.out]
  clear hw1
  by_cases q : xk = 1
  · have q' : (xk != 1) = false := by simp [q]
    have HQ := Lib.hid q
    clear q
    cases xy
    · go_wp2_with fail
      exact bodyPost_ret (v := .bool (st == 3)) (by simp [results, Tryz.results63, go_sem]) rfl ⟨by simp [wonB, HQ.out], HB.out⟩
    · go_wp2_with fail
      exact bodyPost_ret (v := .bool (st == 2)) (by simp [results, Tryz.results63, go_sem]) rfl ⟨by simp [wonB, HQ.out], HB.out⟩
  · have q' : (xk != 1) = true := by simpa using q
    have HQ := Lib.hid q
    clear q
    go_wp2_with fail
    exact bodyPost_ret (v := .bool false) (by simp [results, Tryz.results63, go_sem]) rfl ⟨by simp [wonB, HQ.out], HB.out⟩
/-- Open's answer. -/
def openE (P : Nat → Pl) (r t : Int) : Int := if ¬ (0 ≤ r ∧ r < 12) ∨ ¬ (0 ≤ t ∧ t < 4) then 1 else if (P r.toNat).st ≠ 0 then 5 else 0
def newPl (t : Int) : Pl := ⟨1, t, 0, 0, 0, 0⟩
def openS (S : Vs) (r t : Int) : Vs := if openE S.P r t = 0 then { S with P := putP S.P r.toNat (newPl t) } else S
def storePl (a v : Value) : Sem Unit := Instr.storeAt 105 a v
theorem storePl_hide (a v : Value) : Instr.storeAt 105 a v = storePl a v := rfl
theorem run_storePl {w : World} {b k : Nat} (h : w.there b k 6) (p : Pl) : (storePl (.pointer (some ⟨b, k, none⟩)) (.agg (plc p).toArray)).run Tryz.prog w = .ok () (w.setCells b k (plc p)) :=
  run_storeAt_mid w b k 105 (plc p).toArray h (by kernel_rfl) (by simp [plc, Value.oneCell'])
set_option maxRecDepth 100000 in
attribute [local go_sem ↓] storePl_hide in
theorem VoX.Open {vb N : Nat} {S : Vs} {F : FP} {w : World} (h : VoX vb N S F w) (r t : Int) :
    Calls Tryz.prog 40 #[.pointer (some ⟨vb, 0, none⟩), .int .i64 r, .int .i64 t] w fun e w' => e = .returned (.int .i64 (openE S.P r t)) ∧ VoTo vb N (openS S r t) F w w' := by
  have hp := h.poll r
  by_cases hr : 0 ≤ r ∧ r < 12
  · have hr' : decide (0 ≤ r ∧ r < 12) = true := decide_eq_true hr
    by_cases ht : 0 ≤ t ∧ t < 4
    · have ht' : decide (0 ≤ t ∧ t < 4) = true := decide_eq_true ht
      obtain ⟨k, rfl⟩ := Int.eq_ofNat_of_zero_le hr.1
      have hk : k < 12 := by omega
      by_cases hst : (S.P k).st = 0
      · have eP : plPtr vb S.P (k : Int) = none := by unfold plPtr; rw [if_neg (fun h => h.2 (by simpa using hst))]
        have eE : openE S.P k t = 0 := by unfold openE; rw [if_neg (fun q => q.elim (fun q => q hr) (fun q => q ht)), if_neg (by simpa using hst)]
        have eS : openS S k t = { S with P := putP S.P k (newPl t) } := by unfold openS; rw [if_pos eE]; rfl
        rw [eP] at hp
        rw [eE, eS]
        have hth := (h.cells hk).2.2.2.2.2.2
        have rs := run_storePl hth (newPl t)
        have hto := h.setP hk (newPl t)
        have hkI : (k : Int) < 12 := by omega
        have hk0 : ¬ (k : Int) < 0 := by omega
        have HR := Lib.hid hr'
        have HT := Lib.hid ht'
        have HP := Lib.hid hp
        have HTO := Lib.hid hto
        unfold plc newPl at rs
        have HRS := Lib.hid rs
        clear hr hr' ht ht' hp hth hto eP eE eS hst h
        go_enter Tryz.func40, Tryz.ntmps40
        go_wp2_with (first
          | (go_at_call 77; refine (bound_Below _ _ _).mono ?_; rw [HR.out]; rintro e w' ⟨rfl, hw⟩; rw [hw]; clear hw w')
          | (go_at_call 83; refine (voting_isTrack _ _).mono ?_; rw [HT.out]; rintro e w' ⟨rfl, hw⟩; rw [hw]; clear hw w')
          | (go_at_call 44; refine HP.out.mono ?_; rintro e w' ⟨rfl, hw⟩; rw [hw]; clear hw w')
          | fail)
        exact bodyPost_ret (v := .int .i64 0) (by simp [results, Tryz.results40, go_sem]) rfl ⟨rfl, HTO.out⟩
      · have eP : plPtr vb S.P (k : Int) = some ⟨vb, k * 6, none⟩ := by unfold plPtr; rw [if_pos ⟨hr, by simpa using hst⟩]; simp
        have eE : openE S.P k t = 5 := by unfold openE; rw [if_neg (fun q => q.elim (fun q => q hr) (fun q => q ht)), if_pos (by simpa using hst)]
        have eS : openS S k t = S := by unfold openS; rw [if_neg (by rw [eE]; decide)]
        rw [eP] at hp
        rw [eE, eS]
        have HR := Lib.hid hr'
        have HT := Lib.hid ht'
        have HP := Lib.hid hp
        have HTO := Lib.hid h
        clear hr hr' ht ht' hp eP eE eS hst h
        go_enter Tryz.func40, Tryz.ntmps40
        go_wp2_with (first
          | (go_at_call 77; refine (bound_Below _ _ _).mono ?_; rw [HR.out]; rintro e w' ⟨rfl, hw⟩; rw [hw]; clear hw w')
          | (go_at_call 83; refine (voting_isTrack _ _).mono ?_; rw [HT.out]; rintro e w' ⟨rfl, hw⟩; rw [hw]; clear hw w')
          | (go_at_call 44; refine HP.out.mono ?_; rintro e w' ⟨rfl, hw⟩; rw [hw]; clear hw w')
          | fail)
        exact bodyPost_ret (v := .int .i64 5) (by simp [results, Tryz.results40, go_sem]) rfl ⟨rfl, VoTo.refl HTO.out⟩
    · have ht' : decide (0 ≤ t ∧ t < 4) = false := decide_eq_false ht
      have eE : openE S.P r t = 1 := by unfold openE; rw [if_pos (.inr ht)]
      have eS : openS S r t = S := by unfold openS; rw [if_neg (by rw [eE]; decide)]
      rw [eE, eS]
      have HR := Lib.hid hr'
      have HT := Lib.hid ht'
      have HTO := Lib.hid h
      clear hr hr' ht ht' hp eE eS h
      go_enter Tryz.func40, Tryz.ntmps40
      go_wp2_with (first
        | (go_at_call 77; refine (bound_Below _ _ _).mono ?_; rw [HR.out]; rintro e w' ⟨rfl, hw⟩; rw [hw]; clear hw w')
        | (go_at_call 83; refine (voting_isTrack _ _).mono ?_; rw [HT.out]; rintro e w' ⟨rfl, hw⟩; rw [hw]; clear hw w')
        | fail)
      exact bodyPost_ret (v := .int .i64 1) (by simp [results, Tryz.results40, go_sem]) rfl ⟨rfl, VoTo.refl HTO.out⟩
  · have hr' : decide (0 ≤ r ∧ r < 12) = false := decide_eq_false hr
    have eE : openE S.P r t = 1 := by unfold openE; rw [if_pos (.inl hr)]
    have eS : openS S r t = S := by unfold openS; rw [if_neg (by rw [eE]; decide)]
    rw [eE, eS]
    have HR := Lib.hid hr'
    have HTO := Lib.hid h
    clear hr hr' hp eE eS h
    go_enter Tryz.func40, Tryz.ntmps40
    go_wp2_with (first
      | (go_at_call 77; refine (bound_Below _ _ _).mono ?_; rw [HR.out]; rintro e w' ⟨rfl, hw⟩; rw [hw]; clear hw w')
      | fail)
    exact bodyPost_ret (v := .int .i64 1) (by simp [results, Tryz.results40, go_sem]) rfl ⟨rfl, VoTo.refl HTO.out⟩
/-- Close's answer. -/
def closeE (P : Nat → Pl) (r st : Int) : Int := if ¬ ((0 ≤ r ∧ r < 12) ∧ (P r.toNat).st ≠ 0) then 4 else if (P r.toNat).st ≠ 1 then 9 else if ¬ (2 ≤ st ∧ st ≤ 6) then 1 else 0
def closeS (S : Vs) (r st en : Int) : Vs := if closeE S.P r st = 0 then { S with P := putP S.P r.toNat ⟨st, (S.P r.toNat).tr, (S.P r.toNat).ay, (S.P r.toNat).na, (S.P r.toNat).su, en⟩ } else S
theorem VoX.setE {vb N : Nat} {S : Vs} {F : FP} {w : World} (h : VoX vb N S F w) {k : Nat} (hk : k < 12) (st en : Int) : VoTo vb N { S with P := putP S.P k ⟨st, (S.P k).tr, (S.P k).ay, (S.P k).na, (S.P k).su, en⟩ } F w ((w.setCell ⟨vb, k * 6, none⟩ (.int .i64 st)).setCell ⟨vb, k * 6 + 5, none⟩ (.int .i64 en)) := by
  obtain ⟨gv, gd, gw, gp, FV, FD, FW, FQ, h1, h2⟩ := h
  have hg : Grow w ((w.setCell ⟨vb, k * 6, none⟩ (.int .i64 st)).setCell ⟨vb, k * 6 + 5, none⟩ (.int .i64 en)) := ⟨rfl, rfl, rfl, by simp [World.setCell]⟩
  have ho : ∀ i, i ≠ vb → ((w.setCell ⟨vb, k * 6, none⟩ (.int .i64 st)).setCell ⟨vb, k * 6 + 5, none⟩ (.int .i64 en)).heap[i]? = w.heap[i]? := fun i hi => (Below.heap_setCell _ _ _ i hi).trans (Below.heap_setCell _ _ _ i hi)
  have b1 := h1.blk.set' hk (j := 0) (by omega) (u := .int .i64 st) (p' := ⟨st, (S.P k).tr, (S.P k).ay, (S.P k).na, (S.P k).su, (S.P k).en⟩) rfl
  have b2 := b1.set' hk (j := 5) (by omega) (u := .int .i64 en) (p' := ⟨st, (S.P k).tr, (S.P k).ay, (S.P k).na, (S.P k).su, en⟩) (by rw [putP_same]; rfl)
  rw [putP_putP] at b2
  refine ⟨F, ⟨gv, gd, gw, gp, FV, FD, FW, FQ, ⟨b2, h1.v.keep hg (fun i hi => ho i (fun e => h1.off.b.1 (e ▸ hi))), h1.d.keep hg (fun i hi => ho i (fun e => h1.off.b.2.1 (e ▸ hi))), h1.g.keep hg (fun i hi => ho i (fun e => h1.off.b.2.2.1 (e ▸ hi))), h1.q.keep hg (fun i hi => ho i (fun e => h1.off.b.2.2.2 (e ▸ hi))), h1.off⟩, h2⟩, fun k hk => .inl hk, hg, fun i hi h3 h4 => ho i (fun e => h3 ((h2 i).2 (.inl e)))⟩
set_option maxRecDepth 100000 in
theorem VoX.Close {vb N : Nat} {S : Vs} {F : FP} {w : World} (h : VoX vb N S F w) (r st en : Int) :
    Calls Tryz.prog 82 #[.pointer (some ⟨vb, 0, none⟩), .int .i64 r, .int .i64 st, .int .i64 en] w fun e w' => e = .returned (.int .i64 (closeE S.P r st)) ∧ VoTo vb N (closeS S r st en) F w w' := by
  have hp := h.poll r
  by_cases hr : (0 ≤ r ∧ r < 12) ∧ (S.P r.toNat).st ≠ 0
  · obtain ⟨k, rfl⟩ := Int.eq_ofNat_of_zero_le hr.1.1
    have hk : k < 12 := by omega
    have eP : plPtr vb S.P (k : Int) = some ⟨vb, k * 6, none⟩ := by unfold plPtr; rw [if_pos hr]; simp
    rw [eP] at hp
    have ho := h.open hk
    rw [Int.toNat_natCast] at hr
    by_cases h1 : (S.P k).st = 1
    · have h1' : ((S.P k).st == 1) = true := by simpa using h1
      rw [h1'] at ho
      by_cases h2 : 2 ≤ st ∧ st ≤ 6
      · have h2' : withinB st 2 6 = true := by simpa [withinB] using h2
        have eE : closeE S.P k st = 0 := by unfold closeE; rw [Int.toNat_natCast, if_neg (fun q => q hr), if_neg (fun q => q h1), if_neg (fun q => q h2)]
        have eS : closeS S k st en = { S with P := putP S.P k ⟨st, (S.P k).tr, (S.P k).ay, (S.P k).na, (S.P k).su, en⟩ } := by unfold closeS; rw [if_pos eE]; rfl
        rw [eE, eS]
        have hto := h.setE hk st en
        obtain ⟨c0, -, c5, hfr, -⟩ := h.cells hk
        have f0 := hfr (k * 6)
        have f5 := hfr (k * 6 + 5)
        have HP := Lib.hid hp
        have HO := Lib.hid ho
        have H2 := Lib.hid h2'
        have HTO := Lib.hid hto
        clear hp ho h2 h2' hto hr h1 h1' eE eS eP h hfr
        go_enter Tryz.func82, Tryz.ntmps82
        go_wp2_with (first
          | (go_at_call 44; refine HP.out.mono ?_; rintro e w' ⟨rfl, hw⟩; rw [hw]; clear hw w')
          | (go_at_call 47; refine HO.out.mono ?_; rintro e w' ⟨rfl, hw⟩; rw [hw]; clear hw w')
          | (go_at_call 36; refine (cvWithin _ _ _ _).mono ?_; rw [H2.out]; rintro e w' ⟨rfl, hw⟩; rw [← hw]; clear hw w')
          | fail)
        exact bodyPost_ret (v := .int .i64 0) (by simp [results, Tryz.results82, go_sem]) rfl ⟨rfl, HTO.out⟩
      · have h2' : withinB st 2 6 = false := by simp only [withinB]; by_cases q : 2 ≤ st <;> simp [q] <;> omega
        have eE : closeE S.P k st = 1 := by unfold closeE; rw [Int.toNat_natCast, if_neg (fun q => q hr), if_neg (fun q => q h1), if_pos h2]
        have eS : closeS S k st en = S := by unfold closeS; rw [if_neg (by rw [eE]; decide)]
        rw [eE, eS]
        have HP := Lib.hid hp
        have HO := Lib.hid ho
        have H2 := Lib.hid h2'
        have HTO := Lib.hid h
        clear hp ho h2 h2' hr h1 h1' eE eS eP h
        go_enter Tryz.func82, Tryz.ntmps82
        go_wp2_with (first
          | (go_at_call 44; refine HP.out.mono ?_; rintro e w' ⟨rfl, hw⟩; rw [hw]; clear hw w')
          | (go_at_call 47; refine HO.out.mono ?_; rintro e w' ⟨rfl, hw⟩; rw [hw]; clear hw w')
          | (go_at_call 36; refine (cvWithin _ _ _ _).mono ?_; rw [H2.out]; rintro e w' ⟨rfl, hw⟩; rw [← hw]; clear hw w')
          | fail)
        exact bodyPost_ret (v := .int .i64 1) (by simp [results, Tryz.results82, go_sem]) rfl ⟨rfl, VoTo.refl HTO.out⟩
    · have h1' : ((S.P k).st == 1) = false := by simpa using h1
      rw [h1'] at ho
      have eE : closeE S.P k st = 9 := by unfold closeE; rw [Int.toNat_natCast, if_neg (fun q => q hr), if_pos h1]
      have eS : closeS S k st en = S := by unfold closeS; rw [if_neg (by rw [eE]; decide)]
      rw [eE, eS]
      have HP := Lib.hid hp
      have HO := Lib.hid ho
      have HTO := Lib.hid h
      clear hp ho hr h1 h1' eE eS eP h
      go_enter Tryz.func82, Tryz.ntmps82
      go_wp2_with (first
        | (go_at_call 44; refine HP.out.mono ?_; rintro e w' ⟨rfl, hw⟩; rw [hw]; clear hw w')
        | (go_at_call 47; refine HO.out.mono ?_; rintro e w' ⟨rfl, hw⟩; rw [hw]; clear hw w')
        | fail)
      exact bodyPost_ret (v := .int .i64 9) (by simp [results, Tryz.results82, go_sem]) rfl ⟨rfl, VoTo.refl HTO.out⟩
  · have eP : plPtr vb S.P r = none := by unfold plPtr; rw [if_neg hr]
    rw [eP] at hp
    have eE : closeE S.P r st = 4 := by unfold closeE; rw [if_pos hr]
    have eS : closeS S r st en = S := by unfold closeS; rw [if_neg (by rw [eE]; decide)]
    rw [eE, eS]
    have HP := Lib.hid hp
    have HTO := Lib.hid h
    clear hp hr eE eS eP h
    go_enter Tryz.func82, Tryz.ntmps82
    go_wp2_with (first
      | (go_at_call 44; refine HP.out.mono ?_; rintro e w' ⟨rfl, hw⟩; rw [hw]; clear hw w')
      | fail)
    exact bodyPost_ret (v := .int .i64 4) (by simp [results, Tryz.results82, go_sem]) rfl ⟨rfl, VoTo.refl HTO.out⟩
end Go.Proofs.YtpkamfbjgdmmoaaGreat
end

section
namespace Go.Proofs.YtpkamfbjgdmmoaaGreat
open Go.RowKit Go.Maps Go.Shelf
set_option linter.unusedVariables false
set_option linter.unusedSimpArgs false

/-- Tracks, and referenda, at block r; all lie from N on, in the blocks of F. -/
def ReX (r N : Nat) (ts : List Trk) (R : List Rfm) (F : FP) (w : World) : Prop :=
  ∃ tb cap gb FG, w.heap[r]? = some (.cells #[.slice (some ⟨tb, 0, none⟩) ts.length cap, .pointer (some ⟨gb, 0, none⟩)] 93 (0, 0)) ∧ w.rangeAt tb 0 (trkR.all ts) ∧ tb < w.heap.size ∧ GrAt rfS.cod 173 gb (tabR 0 R) FG w ∧ (∀ k, FG k → N ≤ k ∧ k ≠ r ∧ k ≠ tb) ∧ N ≤ r ∧ N ≤ tb ∧ r ≠ tb ∧ ∀ k, F k ↔ k = r ∨ k = tb ∨ FG k
def ReTo (r N : Nat) (ts : List Trk) (R : List Rfm) (F : FP) (w w' : World) : Prop := ∃ F', ReX r N ts R F' w' ∧ (∀ k, F' k → F k ∨ w.heap.size ≤ k) ∧ Only F (fun _ => False) w w'
section
variable {r N : Nat} {ts : List Trk} {R R' : List Rfm} {F : FP} {w w' w1 : World}
theorem ReX.lt (h : ReX r N ts R F w) {k : Nat} (hk : F k) : k < w.heap.size := by
  obtain ⟨tb, cap, gb, FG, h1, h2, h3, h4, h5, h6, h7, h8, h9⟩ := h
  rcases (h9 k).1 hk with rfl | rfl | e
  · exact (Array.getElem?_eq_some_iff.1 h1).1
  · exact h3
  · exact h4.2.2.1 k e
theorem ReX.lo (h : ReX r N ts R F w) {k : Nat} (hk : F k) : N ≤ k := by
  obtain ⟨tb, cap, gb, FG, h1, h2, h3, h4, h5, h6, h7, h8, h9⟩ := h
  rcases (h9 k).1 hk with rfl | rfl | e
  · exact h6
  · exact h7
  · exact (h5 k e).1
theorem ReX.own (h : ReX r N ts R F w) : F r := by
  obtain ⟨tb, cap, gb, FG, h1, h2, h3, h4, h5, h6, h7, h8, h9⟩ := h
  exact (h9 r).2 (.inl rfl)
theorem ReX.size (h : ReX r N ts R F w) : N ≤ w.heap.size := Nat.le_of_lt (Nat.lt_of_le_of_lt (h.lo h.own) (h.lt h.own))
theorem ReX.keep (h : ReX r N ts R F w) (hg : Grow w w') (hk : ∀ k, F k → w'.heap[k]? = w.heap[k]?) : ReX r N ts R F w' := by
  obtain ⟨tb, cap, gb, FG, h1, h2, h3, h4, h5, h6, h7, h8, h9⟩ := h
  exact ⟨tb, cap, gb, FG, (hk r ((h9 r).2 (.inl rfl))).trans h1, rangeAt_block h2 (hk tb ((h9 tb).2 (.inr (.inl rfl)))), Nat.lt_of_lt_of_le h3 hg.size, h4.keep hg (fun k hf => hk k ((h9 k).2 (.inr (.inr hf)))), h5, h6, h7, h8, h9⟩
theorem ReX.below (h : ReX r N ts R F w) (hb : Below w.heap.size w w') : ReX r N ts R F w' := h.keep (Grow.of_below hb) (fun k hk => hb.block k (h.lt hk))
theorem ReX.at (h : ReX r N ts R F w) (hl : ts.length ≤ 100) : ReAt F r ts w := by
  obtain ⟨tb, cap, gb, FG, h1, h2, h3, h4, h5, h6, h7, h8, h9⟩ := h
  exact ⟨tb, cap, _, h1, h2, (h9 r).2 (.inl rfl), (h9 tb).2 (.inr (.inl rfl)), h3, hl⟩
theorem ReTo.refl (h : ReX r N ts R F w) : ReTo r N ts R F w w := ⟨F, h, fun k hk => .inl hk, Only.refl _ _ _⟩
theorem ReTo.of_below (h : ReX r N ts R F w) (hb : Below w.heap.size w w') : ReTo r N ts R F w w' := ⟨F, h.below hb, fun k hk => .inl hk, Only.of_later hb⟩
theorem ReTo.trans (h : ReTo r N ts R F w w1) (hk : ∀ F', ReX r N ts R F' w1 → ReTo r N ts R' F' w1 w') : ReTo r N ts R' F w w' := by
  obtain ⟨F1, h1, h2, h3⟩ := h
  obtain ⟨F2, k1, k2, k3⟩ := hk F1 h1
  have hs := h3.grow.size
  exact ⟨F2, k1, fun k hk => (k2 k hk).elim (fun e => h2 k e) (fun e => .inr (by omega)), only_cons h3 h2 k3⟩
/-- Its table, its pointers. -/
theorem ReX.cells (h : ReX r N ts R F w) : ∃ tb cap gb, w.cell? ⟨r, 0, none⟩ = some (.slice (some ⟨tb, 0, none⟩) ts.length cap) ∧ w.cell? ⟨r, 1, none⟩ = some (.pointer (some ⟨gb, 0, none⟩)) ∧ w.rangeAt tb 0 (trkR.all ts) ∧ tb < w.heap.size := by
  obtain ⟨tb, cap, gb, FG, h1, h2, h3, h4, h5, h6, h7, h8, h9⟩ := h
  exact ⟨tb, cap, gb, by rw [World.cell?, h1]; rfl, by rw [World.cell?, h1]; rfl, h2, h3⟩
end
/-- A referendum of a list, nothing of what is none. -/
def refAt (R : List Rfm) (b : Int) : Rfm := if 0 ≤ b then (R[b.toNat]?).getD rf0 else rf0
def refHas (R : List Rfm) (b : Int) : Bool := decide (0 ≤ b ∧ b < R.length)
theorem refHas_get (R : List Rfm) (b : Int) : (cget (tabR 0 R) 0 b).isSome = refHas R b := by
  rw [get_tabR]; unfold refHas
  by_cases h : 0 ≤ b
  · rw [if_pos h]
    by_cases h2 : b < R.length
    · rw [List.getElem?_eq_getElem (by omega)]; simp [h, h2]
    · rw [List.getElem?_eq_none (by omega)]; simp [h2]
  · rw [if_neg h]; simp [h]
theorem refAt_get (R : List Rfm) (b : Int) : (cget (tabR 0 R) 0 b).getD rfS.zero = refAt R b := by
  rw [get_tabR]; unfold refAt
  by_cases h : 0 ≤ b
  · rw [if_pos h, if_pos h]; rfl
  · rw [if_neg h, if_neg h]; rfl
/-- All three side by side. -/
def RvAt (r g vb N : Nat) (ts : List Trk) (R : List Rfm) (S : Vs) (A : Acc) (M : Cls Int) (Z : FP) (w : World) : Prop := ∃ FR Zn, ReX r N ts R FR w ∧ LvAt g vb N S A M Zn w ∧ (∀ k, FR k → ¬ Zn k) ∧ ∀ k, Z k ↔ FR k ∨ Zn k
def RvTo (r g vb N : Nat) (ts : List Trk) (R : List Rfm) (S : Vs) (A : Acc) (M : Cls Int) (Z : FP) (w w' : World) : Prop := ∃ Z', RvAt r g vb N ts R S A M Z' w' ∧ (∀ k, Z' k → Z k ∨ w.heap.size ≤ k) ∧ Only Z (fun _ => False) w w'
section
variable {r g vb N : Nat} {ts : List Trk} {R R' : List Rfm} {S S' : Vs} {A A' : Acc} {M M' : Cls Int} {Z : FP} {w w' w1 : World}
theorem RvAt.lt (h : RvAt r g vb N ts R S A M Z w) {k : Nat} (hk : Z k) : k < w.heap.size := by
  obtain ⟨FR, Zn, h1, h2, h3, h4⟩ := h
  exact ((h4 k).1 hk).elim h1.lt h2.lt
theorem RvAt.lo (h : RvAt r g vb N ts R S A M Z w) {k : Nat} (hk : Z k) : N ≤ k := by
  obtain ⟨FR, Zn, h1, h2, h3, h4⟩ := h
  exact ((h4 k).1 hk).elim h1.lo h2.lo
theorem RvAt.size (h : RvAt r g vb N ts R S A M Z w) : N ≤ w.heap.size := by obtain ⟨FR, Zn, h1, h2, h3, h4⟩ := h; exact h1.size
theorem RvAt.keep (h : RvAt r g vb N ts R S A M Z w) (hg : Grow w w') (hk : ∀ k, Z k → w'.heap[k]? = w.heap[k]?) : RvAt r g vb N ts R S A M Z w' := by
  obtain ⟨FR, Zn, h1, h2, h3, h4⟩ := h
  exact ⟨FR, Zn, h1.keep hg (fun k hf => hk k ((h4 k).2 (.inl hf))), h2.keep hg (fun k hf => hk k ((h4 k).2 (.inr hf))), h3, h4⟩
theorem RvAt.below (h : RvAt r g vb N ts R S A M Z w) (hb : Below w.heap.size w w') : RvAt r g vb N ts R S A M Z w' := h.keep (Grow.of_below hb) (fun k hk => hb.block k (h.lt hk))
theorem RvTo.of_below (h : RvAt r g vb N ts R S A M Z w) (hb : Below w.heap.size w w') : RvTo r g vb N ts R S A M Z w w' := ⟨Z, h.below hb, fun k hk => .inl hk, Only.of_later hb⟩
theorem RvTo.refl (h : RvAt r g vb N ts R S A M Z w) : RvTo r g vb N ts R S A M Z w w := RvTo.of_below h (Below.refl _ _)
theorem RvTo.trans (h : RvTo r g vb N ts R S A M Z w w1) (hk : ∀ Z', RvAt r g vb N ts R S A M Z' w1 → RvTo r g vb N ts R' S' A' M' Z' w1 w') : RvTo r g vb N ts R' S' A' M' Z w w' := by
  obtain ⟨Z1, h1, h2, h3⟩ := h
  obtain ⟨Z2, k1, k2, k3⟩ := hk Z1 h1
  have hs := h3.grow.size
  exact ⟨Z2, k1, fun k hk => (k2 k hk).elim (fun e => h2 k e) (fun e => .inr (by omega)), only_cons h3 h2 k3⟩
theorem RvTo.then_below (h : RvTo r g vb N ts R S A M Z w w1) (hb : Below w1.heap.size w1 w') : RvTo r g vb N ts R S A M Z w w' := h.trans (fun Z' h' => RvTo.of_below h' hb)
theorem RvTo.later (hb : Below w.heap.size w w1) (h : RvTo r g vb N ts R S A M Z w1 w') : RvTo r g vb N ts R S A M Z w w' := by
  obtain ⟨Z1, h1, h2, h3⟩ := h
  exact ⟨Z1, h1, fun k hk => (h2 k hk).imp id (fun e => Nat.le_trans hb.size e), only_trans (Only.of_later hb) h3⟩
theorem RvTo.below (h : RvAt r g vb N ts R S A M Z w) (ht : RvTo r g vb N ts R' S' A' M' Z w w') : Below N w w' := by
  obtain ⟨Z2, k1, k2, k3⟩ := ht
  exact k3.below h.size (fun k hk => h.lo hk) (fun k h => h.elim)
/-- A block that is none of theirs stays. -/
theorem RvTo.old (ht : RvTo r g vb N ts R' S' A' M' Z w w') {k : Nat} (hk : k < w.heap.size) (hz : ¬ Z k) : w'.heap[k]? = w.heap[k]? := by
  obtain ⟨Z2, k1, k2, k3⟩ := ht
  exact k3.block k hk hz (fun h => h)
/-- What changes refer alone. -/
theorem RvAt.re (h : RvAt r g vb N ts R S A M Z w) : ∃ FR, ReX r N ts R FR w ∧ ∀ R' w', ReTo r N ts R' FR w w' → RvTo r g vb N ts R' S A M Z w w' := by
  obtain ⟨FR, Zn, h1, h2, h3, h4⟩ := h
  refine ⟨FR, h1, fun R' w' ⟨F', k1, k2, k3⟩ => ⟨fun k => F' k ∨ Zn k, ⟨F', Zn, k1, h2.keep k3.grow (fun k hk => k3.block k (h2.lt hk) (fun e => h3 k e hk) (fun h => h)), fun k hk hl => (k2 k hk).elim (fun e => h3 k e hl) (fun e => by have := h2.lt hl; omega), fun k => Iff.rfl⟩, fun k hk => ?_, k3.grow, fun k hk h5 h6 => k3.block k hk (fun e => h5 ((h4 k).2 (.inl e))) h6⟩⟩
  rcases hk with e | e
  · exact (k2 k e).imp (fun e => (h4 k).2 (.inl e)) id
  · exact .inl ((h4 k).2 (.inr e))
/-- What changes the ledger and the voting alone. -/
theorem RvAt.lv (h : RvAt r g vb N ts R S A M Z w) : ∃ Zn, LvAt g vb N S A M Zn w ∧ ∀ S' A' M' w', LvTo g vb N S' A' M' Zn w w' → RvTo r g vb N ts R S' A' M' Z w w' := by
  obtain ⟨FR, Zn, h1, h2, h3, h4⟩ := h
  refine ⟨Zn, h2, fun S' A' M' w' ⟨F', k1, k2, k3⟩ => ⟨fun k => FR k ∨ F' k, ⟨FR, F', h1.keep k3.grow (fun k hk => k3.block k (h1.lt hk) (fun e => h3 k hk e) (fun h => h)), k1, fun k hk hl => (k2 k hl).elim (fun e => h3 k hk e) (fun e => by have := h1.lt hk; omega), fun k => Iff.rfl⟩, fun k hk => ?_, k3.grow, fun k hk h5 h6 => k3.block k hk (fun e => h5 ((h4 k).2 (.inr e))) h6⟩⟩
  rcases hk with e | e
  · exact .inl ((h4 k).2 (.inl e))
  · exact (k2 k e).imp (fun e => (h4 k).2 (.inr e)) id
theorem RvAt.vo (h : RvAt r g vb N ts R S A M Z w) : ∃ F, VoX vb N S F w ∧ ∀ S' w', VoTo vb N S' F w w' → RvTo r g vb N ts R S' A M Z w w' := by
  obtain ⟨Zn, h1, h2⟩ := h.lv
  obtain ⟨F, k1, k2⟩ := h1.vo
  exact ⟨F, k1, fun S' w' ht => h2 _ _ _ _ (k2 _ _ ht)⟩
theorem RvAt.ld (h : RvAt r g vb N ts R S A M Z w) : ∃ FL, LdX g N A M FL w ∧ ∀ A' M' w', LdTo g N A' M' FL w w' → RvTo r g vb N ts R S A' M' Z w w' := by
  obtain ⟨Zn, h1, h2⟩ := h.lv
  obtain ⟨F, k1, k2⟩ := h1.ld
  exact ⟨F, k1, fun A' M' w' ht => h2 _ _ _ _ (k2 _ _ _ ht)⟩
theorem RvTo.cons {Z1 : FP} (h2 : ∀ k, Z1 k → Z k ∨ w.heap.size ≤ k) (h3 : Only Z (fun _ => False) w w1) (h : RvTo r g vb N ts R S A M Z1 w1 w') : RvTo r g vb N ts R S A M Z w w' := by
  obtain ⟨Z2, k1, k2, k3⟩ := h
  have := h3.grow.size
  exact ⟨Z2, k1, fun k hk => (k2 k hk).elim (fun e => h2 k e) (fun e => .inr (by omega)), only_cons h3 h2 k3⟩
/-- The next step from a changed one. -/
theorem RvTo.re (h : RvTo r g vb N ts R S A M Z w w1) : ∃ FR, ReX r N ts R FR w1 ∧ ∀ R' w', ReTo r N ts R' FR w1 w' → RvTo r g vb N ts R' S A M Z w w' := by
  obtain ⟨Z1, h1, h2, h3⟩ := h
  obtain ⟨FR, k1, k2⟩ := h1.re
  exact ⟨FR, k1, fun R' w' ht => RvTo.cons h2 h3 (k2 _ _ ht)⟩
theorem RvTo.lv (h : RvTo r g vb N ts R S A M Z w w1) : ∃ Zn, LvAt g vb N S A M Zn w1 ∧ ∀ S' A' M' w', LvTo g vb N S' A' M' Zn w1 w' → RvTo r g vb N ts R S' A' M' Z w w' := by
  obtain ⟨Z1, h1, h2, h3⟩ := h
  obtain ⟨FR, k1, k2⟩ := h1.lv
  exact ⟨FR, k1, fun S' A' M' w' ht => RvTo.cons h2 h3 (k2 _ _ _ _ ht)⟩
theorem RvTo.vo (h : RvTo r g vb N ts R S A M Z w w1) : ∃ F, VoX vb N S F w1 ∧ ∀ S' w', VoTo vb N S' F w1 w' → RvTo r g vb N ts R S' A M Z w w' := by
  obtain ⟨Z1, h1, h2, h3⟩ := h
  obtain ⟨FR, k1, k2⟩ := h1.vo
  exact ⟨FR, k1, fun S' w' ht => RvTo.cons h2 h3 (k2 _ _ ht)⟩
theorem RvTo.ld (h : RvTo r g vb N ts R S A M Z w w1) : ∃ FL, LdX g N A M FL w1 ∧ ∀ A' M' w', LdTo g N A' M' FL w1 w' → RvTo r g vb N ts R S A' M' Z w w' := by
  obtain ⟨Z1, h1, h2, h3⟩ := h
  obtain ⟨FR, k1, k2⟩ := h1.ld
  exact ⟨FR, k1, fun A' M' w' ht => RvTo.cons h2 h3 (k2 _ _ _ ht)⟩
end
end Go.Proofs.YtpkamfbjgdmmoaaGreat
end

section
namespace Go.Proofs.YtpkamfbjgdmmoaaGreat
open Go.RowKit Go.Maps Go.Shelf
set_option linter.unusedVariables false
set_option linter.unusedSimpArgs false

set_option maxRecDepth 100000 in
set_option maxHeartbeats 4000000 in
theorem refer_NewX {ts : List Trk} {w : World} {b cap : Nat} (hr : w.rangeAt b 0 (trkR.all ts)) (hb : b < w.heap.size) (hc : ts.length ≤ cap) (hl : ts.length ≤ 100) :
    Calls Tryz.prog 32 #[.slice (some ⟨b, 0, none⟩) ts.length cap] w fun e w' => Below w.heap.size w w' ∧ ((newB ts = true ∧ ∃ r F, e = .returned (.tuple #[.pointer (some ⟨r, 0, none⟩), .int .i64 0]) ∧ ReX r w.heap.size ts [] F w') ∨ (newB ts = false ∧ e = .returned (.tuple #[.pointer none, .int .i64 1]))) := by
  obtain ⟨n, hn⟩ : ∃ n, n = ts.length := ⟨_, rfl⟩
  rw [← hn] at hc hl ⊢
  have HR := Lib.hid (And.intro hr (And.intro hb (And.intro hc hn)))
  clear hr hb hc
  by_cases hlen : 1 ≤ n ∧ n ≤ 4
  · have hd : decide ((1 : Int) ≤ (n : Int) ∧ (n : Int) ≤ 4) = true := decide_eq_true (by omega)
    have HD := Lib.hid hd
    have hn4 : n ≤ 4 := hlen.2
    have HLN := Lib.hid (And.intro hlen hn)
    clear hd hlen hn
    go_enter Tryz.func32, Tryz.ntmps32
    go_wp2_with (first
      | (go_at_call 36; refine (bound_Within _ _ _ _).mono ?_; rw [HD.out]; rintro e w' ⟨rfl, hw⟩; rw [hw]; clear hw w')
      | fail)
    go_loopw [12] (fun i wr => ∃ k : Nat, k ≤ n ∧ i = .int .i64 k ∧ (ts.take k).all trackB = true ∧ Below w.heap.size w wr) (fun i _ => n - (intOf i).toNat)
    case atStart => exact ⟨0, by omega, rfl, by simp, Below.refl _ _⟩
    case round =>
      obtain ⟨k, hk, rfl, hall, hbl⟩ := hrel
      by_cases hlt : k < n
      · have hlt' : (k : Int) < n := by omega
        have hkl : k < ts.length := by rw [← HLN.out.2]; exact hlt
        have hrk : wr.rangeAt b (k * 18) (trkR.f ts[k]) := fun j u hj => by
          have hj18 : j < 18 := by have := (List.getElem?_eq_some_iff.1 hj).1; rwa [trkR.len] at this
          have := rangeAt_block HR.out.1 (hbl.block b HR.out.2.1) (k * 18 + j) u (by rw [show k * 18 + j = k * trkR.k + j from rfl, trkR.all_at hkl hj18]; exact hj)
          rwa [Nat.zero_add] at this
        have hts : (ts.take (k + 1)).all trackB = ((ts.take k).all trackB && trackB ts[k]) := by rw [List.take_succ_eq_append_getElem hkl, List.all_append]; simp
        have hna : trackB ts[k] = false → ts.all trackB = false := fun h => by
          rw [Bool.eq_false_iff]
          intro hall
          rw [List.all_eq_true] at hall
          rw [hall _ (List.getElem_mem hkl)] at h
          cases h
        obtain ⟨t, ht⟩ : ∃ t, t = ts[k] := ⟨_, rfl⟩
        rw [← ht] at hrk hts hna
        obtain ⟨W1, hW1⟩ : ∃ W1, W1 = wr.alloc (.cells (trkR.f t).toArray 26) := ⟨_, rfl⟩
        have hr1 : W1.rangeAt wr.heap.size 0 (trkR.f t) := by rw [hW1]; exact rangeAt_whole (T := 26) (World.alloc_heap_new _ _)
        have hb1 : Below w.heap.size w W1 := by rw [hW1]; exact hbl.alloc hbl.size _
        have his := track_IsR t W1
        obtain ⟨q, hq⟩ : ∃ q, q = trackB t := ⟨_, rfl⟩
        rw [← hq] at his hts hna
        have HRK := Lib.hid hrk
        have HA := Lib.hid (And.intro hall (And.intro hts hna))
        have HB := Lib.hid hbl
        have HW1 := Lib.hid hW1
        have HR1 := Lib.hid hr1
        have HB1 := Lib.hid hb1
        have HIS := Lib.hid his
        clear hrk hts hna ht hW1 hr1 hb1 his hq hall hbl hkl
        cases q
        · go_wp2_with (first
            | (refine wpl_allocR (r := trkR) (ty := 26) rfl rfl rfl ?_; intro C hC)
            | (refine wpl_loadR (r := trkR) (t := t) (b := b) (k := k * 18) _ rfl rfl rfl HRK.out ?_)
            | (refine wpl_loadR (r := trkR) (t := t) (b := wr.heap.size) (k := 0) _ rfl rfl rfl HR1.out ?_)
            | (refine wpl_storeR (r := trkR) (ty := 26) (t := t) (C := C) _ _ rfl rfl rfl rfl rfl (World.alloc_heap_new wr _) hC ?_; rw [World.setRow_alloc_new]; rw [show wr.alloc (.cells (trkR.f t).toArray 26) = W1 from HW1.out.symm])
            | (go_at_call 78; refine HIS.out.mono ?_; rintro e w2 ⟨rfl, hb⟩; have H2 := Lib.hid hb; clear hb)
            | fail)
          exact bodyPost_ret (v := .tuple #[.pointer none, .int .i64 1]) (by simp [results, Tryz.results32, go_sem]) rfl ⟨HB1.out.trans (H2.out.mono HB1.out.size), .inr ⟨by unfold newB; rw [HA.out.2.2 (by first | rfl | trivial), Bool.and_false], rfl⟩⟩
        · go_wp2_with (first
            | (refine wpl_allocR (r := trkR) (ty := 26) rfl rfl rfl ?_; intro C hC)
            | (refine wpl_loadR (r := trkR) (t := t) (b := b) (k := k * 18) _ rfl rfl rfl HRK.out ?_)
            | (refine wpl_loadR (r := trkR) (t := t) (b := wr.heap.size) (k := 0) _ rfl rfl rfl HR1.out ?_)
            | (refine wpl_storeR (r := trkR) (ty := 26) (t := t) (C := C) _ _ rfl rfl rfl rfl rfl (World.alloc_heap_new wr _) hC ?_; rw [World.setRow_alloc_new]; rw [show wr.alloc (.cells (trkR.f t).toArray 26) = W1 from HW1.out.symm])
            | (go_at_call 78; refine HIS.out.mono ?_; rintro e w2 ⟨rfl, hb⟩; have H2 := Lib.hid hb; clear hb)
            | fail)
          go_roundw
          case rel => exact ⟨k + 1, by omega, by go_num, by rw [HA.out.2.1, HA.out.1]; rfl, HB1.out.trans (H2.out.mono HB1.out.size)⟩
          case measure => simp [intOf]; omega
      · have hge : ¬ (k : Int) < n := by omega
        have hkn : k = n := by omega
        subst hkn
        have hfull : ts.all trackB = true := by rw [HLN.out.2, List.take_length] at hall; exact hall
        have hcl := slices_CloneT (v := .nilFunc) (rangeAt_block HR.out.1 (hbl.block b HR.out.2.1)) (Nat.lt_of_lt_of_le HR.out.2.1 hbl.size) (by rw [← HR.out.2.2.2]; exact HR.out.2.2.1) (by have := HLN.out; omega) (ts := ts) (cap := cap)
        rw [← HLN.out.2] at hcl
        have hnb : newB ts = true := by unfold newB; rw [hfull, ← HLN.out.2, decide_eq_true HLN.out.1]; rfl
        have HCL := Lib.hid hcl
        have HBL := Lib.hid hbl
        have HNB := Lib.hid hnb
        clear hall hbl hfull hcl hnb hk hlt
        go_wp2_with (first
          | (go_at_call 79; refine HCL.out.mono ?_; rintro e w3 ⟨g, c, rfl, hg, ho, hb⟩; have H3 := Lib.hid (And.intro hg (And.intro ho hb)); clear hg ho hb)
          | (go_at_call 80; refine (grid_New_R _).mono ?_; rintro e w4 ⟨rfl, hw⟩; have hb4 : Below w3.heap.size w3 w4 := (by rw [hw]; exact (Below.refl _ w3).alloc (Nat.le_refl _) _); have hg4 : GrAt rfS.cod 173 w3.heap.size [] (fun k => k = w3.heap.size) w4 := (by rw [hw]; exact GrAt.new_R w3); clear hw; have H4 := Lib.hid hb4; have G4 := Lib.hid hg4; clear hb4 hg4)
          | fail)
        have hb3 := HBL.out.trans (H3.out.2.2.mono HBL.out.size)
        have hb4 := hb3.trans (H4.out.mono hb3.size)
        obtain ⟨W5, hW5⟩ : ∃ W5, W5 = w4.alloc (.cells #[.slice (some ⟨g, 0, none⟩) k c, .pointer (some ⟨w3.heap.size, 0, none⟩)] 93) := ⟨_, rfl⟩
        have hb5 : Below w4.heap.size w4 W5 := by rw [hW5]; exact (Below.refl _ w4).alloc (Nat.le_refl _) _
        have hown := H3.out.2.1
        have hglt : g < w3.heap.size := (hown.block rfl).2
        have hrg : w3.rangeAt g 0 (trkR.all ts) := by
          rcases hown.reads with ⟨e, -⟩ | ⟨b', o', c', e, -, -, hr⟩
          · cases e
          · injection e with e1 e2 e3
            injection e1 with e1
            injection e1 with e4 e5
            subst e4 e5
            exact hr
        have hs4 := H4.out.size
        have hg4l : w3.heap.size < w4.heap.size := G4.out.2.2.1 _ rfl
        have hre : ReX w4.heap.size w.heap.size ts [] (fun j => j = w4.heap.size ∨ j = g ∨ j = w3.heap.size) W5 := by
          have hg5 := GrAt.keep G4.out (Grow.of_below hb5) (fun k hk => by subst hk; exact hb5.block _ hg4l)
          refine ⟨g, c, w3.heap.size, fun j => j = w3.heap.size, by rw [hW5, ← HLN.out.2]; exact World.alloc_heap_new _ _, rangeAt_block hrg ((hb5.block g (by omega)).trans (H4.out.block g hglt)), by have := hb5.size; omega, hg5, fun j hj => by subst hj; exact ⟨hb3.size, by omega, by omega⟩, hb4.size, Nat.le_trans HBL.out.size H3.out.1, by omega, fun j => Iff.rfl⟩
        rw [← hW5]
        exact bodyPost_ret (v := .tuple #[.pointer (some ⟨w4.heap.size, 0, none⟩), .int .i64 0]) (by simp [results, Tryz.results32, go_sem]) rfl ⟨hb4.trans (hb5.mono hb4.size), .inl ⟨HNB.out, _, _, rfl, hre⟩⟩
  · have hd : decide ((1 : Int) ≤ (n : Int) ∧ (n : Int) ≤ 4) = false := decide_eq_false (by omega)
    have HD := Lib.hid hd
    have hnb : newB ts = false := by unfold newB; rw [← hn, decide_eq_false hlen]; rfl
    have HNB := Lib.hid hnb
    clear hd hlen hn hnb
    go_enter Tryz.func32, Tryz.ntmps32
    go_wp2_with (first
      | (go_at_call 36; refine (bound_Within _ _ _ _).mono ?_; rw [HD.out]; rintro e w' ⟨rfl, hw⟩; rw [hw]; clear hw w')
      | fail)
    exact bodyPost_ret (v := .tuple #[.pointer none, .int .i64 1]) (by simp [results, Tryz.results32, go_sem]) rfl ⟨Below.refl _ _, .inr ⟨HNB.out, rfl⟩⟩
end Go.Proofs.YtpkamfbjgdmmoaaGreat
end

section
namespace Go.Proofs.YtpkamfbjgdmmoaaGreat
open Go.ChangeShapes Go.WideShapes Go.ChangeAt Go.RowKit

section
variable {H : Type} {enc : TypeId × Value → H} {P : Program}

/-- Every argument reads as it read, where below the heap's old end nothing has turned. -/
theorem trodAll_stays (hl : laidOutB P = true) {W W' : World} (hb : Below W.heap.size W W') : ∀ (ts : List TypeId) (vs : List Value) (ds : List (DataW H)) (ps : List MemPlace),
    (ts.all fun t => P.readableRec t && decide (t < P.types.size)) = true → DataW.TrodAll enc P W 0 (fun _ => true) true ts vs ds ps →
    DataW.TrodAll enc P W' 0 (fun b => decide (b < W.heap.size)) true ts vs ds ps
  | [], [], [], _, _, h => h
  | t :: ts, v :: vs, d :: ds, _, hr, h => by
    obtain ⟨p, q, h1, h2, rfl⟩ := h
    simp only [List.all_cons, Bool.and_eq_true, decide_eq_true_eq] at hr
    have lt : ∀ x ∈ p, x.block < W.heap.size := by obtain ⟨m, hm⟩ := h1; exact DataW.trod_lt m _ _ _ hm
    exact ⟨p, q, Below.trod hl hr.1.1 hr.1.2 h1 hb lt, trodAll_stays hl hb ts vs ds q hr.2 h2, rfl⟩
  | [], _ :: _, _, _, _, h => h.elim
  | [], [], _ :: _, _, _, h => h.elim
  | _ :: _, [], _, _, _, h => h.elim
  | _ :: _, _ :: _, [], _, _, h => h.elim

theorem trodAll_lengths {w : World} {base : Nat} {spare : Nat → Bool} {held : Bool} : ∀ (ts : List TypeId) (vs : List Value) (ds : List (DataW H)) (ps : List MemPlace), DataW.TrodAll enc P w base spare held ts vs ds ps → ds.length = ts.length ∧ vs.length = ts.length
  | [], [], [], _, _ => ⟨rfl, rfl⟩
  | _ :: ts, _ :: vs, _ :: ds, _, h => by
    obtain ⟨_, q, _, h2, _⟩ := h
    have := trodAll_lengths ts vs ds q h2
    exact ⟨by simp [this.1], by simp [this.2]⟩
  | [], _ :: _, _, _, h => h.elim
  | [], [], _ :: _, _, h => h.elim
  | _ :: _, [], _, _, h => h.elim
  | _ :: _, _ :: _, [], _, h => h.elim

/-- What a law's specification says. -/
def IsLaw (s : ChangeSpec) (n : Nat) : Prop := s.vars = [] ∧ ∀ (H : Type) (ds : List (DataW H)), ds.length = n → s.fn H ds = { results := [.lit (.bool true)], args := ds }

/-- The closed facts on the program that a law's row needs. -/
structure LawFacts (P : Program) (fn : Func) : Prop where
  laid : laidOutB P = true
  read : (fn.params.toList.all fun t => P.readableRec t && decide (t < P.types.size)) = true
  res : ∃ T, fn.resultTypes = #[T] ∧ P.underlying T = some .bool

theorem law_post {fn : Func} {s : ChangeSpec} (hs : IsLaw s fn.params.size) (hf : LawFacts P fn) {W W' : World} {args : Array Value} {ds gs : List (DataW H)} {before : List MemPlace}
    (hW : DataW.Whole enc P fn.params.toList s.vars false W args.toList ds gs before) (hb : Below W.heap.size W W') :
    s.post enc P fn false true false false W args (.bool true) W' := by
  have hW' := hW
  obtain ⟨p, q, hA, hV, _, _, _⟩ := hW
  rw [hs.1] at hV
  obtain ⟨rfl, _⟩ := trodVars_none hV
  have hlen : ds.length = fn.params.size := by have := (trodAll_lengths _ _ _ _ hA).1; simpa using this
  have hfn := hs.2 H ds hlen
  obtain ⟨T, hT, hB⟩ := hf.res
  refine ⟨_, _, _, [], p, [], hW', ?_, ?_, ?_, hb.frame _, fun h => by cases h⟩
  · rw [List.append_nil, hfn, hT]
    exact trodAll_mk1 (shut_bool hB _)
  · rw [List.append_nil, hfn]
    exact trodAll_stays hf.laid hb _ _ _ _ hf.read hA
  · rw [List.append_nil, hfn, hs.1]
    rfl

end
end Go.Proofs.YtpkamfbjgdmmoaaGreat
end

section
namespace Go.Proofs.YtpkamfbjgdmmoaaGreat
open Go.ChangeShapes Go.WideShapes Go.ChangeAt Go.RowKit

section
variable {H : Type} {enc : TypeId × Value → H} {P : Program} {w : World} {base : Nat} {spare : Nat → Bool} {held : Bool}

/-- A cell's kind: an integer's, or none: a bool. -/
abbrev Leaf := Option IntKind

def leafFits : Leaf → Value → Prop
  | some k, v => ∃ n, v = .int k n ∧ (Lit.int k n).wf = true
  | .none, v => ∃ b, v = .bool b

def Fits : List Leaf → List Value → Prop
  | [], [] => True
  | l :: ls, v :: vs => leafFits l v ∧ Fits ls vs
  | _, _ => False

theorem fits_append : ∀ {a b : List Leaf} {x y : List Value}, Fits a x → Fits b y → Fits (a ++ b) (x ++ y)
  | [], _, [], _, _, h => h
  | _ :: _, _, _ :: _, _, h, k => ⟨h.1, fits_append h.2 k⟩
  | [], _, _ :: _, _, h, _ => h.elim
  | _ :: _, _, [], _, h, _ => h.elim

theorem fits_length : ∀ {a : List Leaf} {x : List Value}, Fits a x → x.length = a.length
  | [], [], _ => rfl
  | _ :: _, _ :: _, h => by simp [fits_length h.2]
  | [], _ :: _, h => h.elim
  | _ :: _, [], h => h.elim

theorem fits_int {k : IntKind} {ls : List Leaf} {cs : List Value} (h : Fits (some k :: ls) cs) : ∃ n vs, cs = .int k n :: vs ∧ (Lit.int k n).wf = true ∧ Fits ls vs := by
  match cs, h with
  | v :: vs, h => obtain ⟨⟨n, rfl, hn⟩, hr⟩ := h; exact ⟨n, vs, rfl, hn, hr⟩
theorem fits_bool {ls : List Leaf} {cs : List Value} (h : Fits (.none :: ls) cs) : ∃ b vs, cs = .bool b :: vs ∧ Fits ls vs := by
  match cs, h with
  | v :: vs, h => obtain ⟨⟨b, rfl⟩, hr⟩ := h; exact ⟨b, vs, rfl, hr⟩
theorem fits_nil {cs : List Value} (h : Fits [] cs) : cs = [] := by
  match cs, h with
  | [], _ => rfl

/-- The fields' leaves, where each field begins where the one before it ends. -/
def fieldLeaves (P : Program) (of : TypeId → Option (List Leaf)) : Nat → List Field → Option (List Leaf)
  | _, [] => some []
  | off, f :: fs => match of f.type, fieldLeaves P of (off + P.cellsOf f.type) fs with
    | some a, some b => if f.offset = off ∧ a.length = P.cellsOf f.type then some (a ++ b) else .none
    | _, _ => .none

def repeatLeaves (a : List Leaf) : Nat → List Leaf
  | 0 => []
  | n + 1 => a ++ repeatLeaves a n

/-- A flat type's leaves. -/
def leaves (P : Program) : Nat → TypeId → Option (List Leaf)
  | 0, _ => .none
  | n + 1, t => match P.underlying t with
    | some .bool => some [.none]
    | some (.int k) => some [some k]
    | some (.struct fs) => match fieldLeaves P (leaves P n) 0 fs.toList with
      | some ls => if ls.length = P.cellsOf t then some ls else .none
      | .none => .none
    | some (.array m e) => match leaves P n e with
      | some a => if a.length = P.cellsOf e ∧ m * P.cellsOf e = P.cellsOf t then some (repeatLeaves a m) else .none
      | .none => .none
    | _ => .none

theorem fields_fit {of : TypeId → Option (List Leaf)} {cs : List Value} : ∀ (fs : List Field) (off : Nat) (ls : List Leaf), fieldLeaves P of off fs = some ls →
    (∀ f ∈ fs, ∀ a, of f.type = some a → Fits a ((cs.drop f.offset).take (P.cellsOf f.type))) → ∃ pre rest, cs.drop off = pre ++ rest ∧ Fits ls pre
  | [], off, ls, h, _ => by
    simp only [fieldLeaves, Option.some.injEq] at h; subst h
    exact ⟨[], _, rfl, trivial⟩
  | f :: fs, off, ls, h, hf => by
    simp only [fieldLeaves] at h
    split at h
    · rename_i a b ha hb
      split at h
      · rename_i hc
        simp only [Option.some.injEq] at h; subst h
        have k := hf f (List.mem_cons_self ..) a ha
        obtain ⟨pre, rest, hd, hfit⟩ := fields_fit fs _ b hb (fun g hg => hf g (List.mem_cons_of_mem _ hg))
        rw [hc.1] at k
        refine ⟨(cs.drop off).take (P.cellsOf f.type) ++ pre, rest, ?_, fits_append k hfit⟩
        rw [List.append_assoc, ← hd, ← List.drop_drop, List.take_append_drop]
      · cases h
    · cases h

theorem repeat_length (a : List Leaf) : ∀ n, (repeatLeaves a n).length = n * a.length
  | 0 => by simp [repeatLeaves]
  | n + 1 => by rw [repeatLeaves, List.length_append, repeat_length a n, Nat.succ_mul]; omega

theorem repeat_fit {a : List Leaf} {c : Nat} : ∀ (m : Nat) (cs : List Value), (∀ i, i < m → Fits a ((cs.drop (i * c)).take c)) → ∃ pre rest, cs = pre ++ rest ∧ Fits (repeatLeaves a m) pre
  | 0, cs, _ => ⟨[], cs, rfl, trivial⟩
  | m + 1, cs, h => by
    have h0 := h 0 (by omega)
    simp only [Nat.zero_mul, List.drop_zero] at h0
    obtain ⟨pre, rest, hd, hf⟩ := repeat_fit (a := a) (c := c) m (cs.drop c) (fun i hi => by
      have := h (i + 1) (by omega)
      rw [Nat.succ_mul] at this
      rwa [List.drop_drop, Nat.add_comm c])
    exact ⟨cs.take c ++ pre, rest, by rw [List.append_assoc, ← hd, List.take_append_drop], fits_append h0 hf⟩

theorem flat_fits : ∀ (n : Nat) (t : TypeId) (ls : List Leaf), leaves P n t = some ls → ∀ (fuel : Nat) (cs : List Value) (x : DataW H × List MemPlace), DataW.trod enc P w base spare held fuel t cs = some x → Fits ls cs
  | 0, t, ls, h, _, _, _, _ => by simp [leaves] at h
  | n + 1, t, ls, h, fuel, cs, x, hx => by
    simp only [leaves] at h
    split at h
    · rename_i hu
      simp only [Option.some.injEq] at h; subst h
      cases fuel with
      | zero => simp [DataW.trod] at hx
      | succ m =>
        unfold DataW.trod at hx; rw [hu] at hx
        split at hx <;> simp_all [Fits, leafFits]
    · rename_i k hu
      simp only [Option.some.injEq] at h; subst h
      cases fuel with
      | zero => simp [DataW.trod] at hx
      | succ m =>
        unfold DataW.trod at hx; rw [hu] at hx
        split at hx <;> simp_all [Fits, leafFits]
    · rename_i fs hu
      split at h
      · rename_i l hl
        split at h
        · rename_i hc
          simp only [Option.some.injEq] at h; subst h
          obtain ⟨xs, m, rfl, hxx, hlen, hxl, hf⟩ := DataW.trod_struct hu hx
          obtain ⟨pre, rest, hd, hfit⟩ := fields_fit (P := P) (cs := cs) fs.toList 0 _ hl (fun f hmem a ha => by
            obtain ⟨i, hi, hie⟩ := List.getElem_of_mem hmem
            have hi' : i < xs.length := by rw [hxl]; simpa using hi
            have e1 : fs[i]? = some f := by rw [← Array.getElem?_toList, List.getElem?_eq_getElem hi, hie]
            have e2 := hf i f e1
            rw [List.getElem?_eq_getElem hi'] at e2
            exact flat_fits n f.type a ha m _ _ e2)
          have e := fits_length hfit
          rw [List.drop_zero] at hd
          have : rest = [] := by
            have h1 := congrArg List.length hd
            rw [List.length_append] at h1
            have : rest.length = 0 := by omega
            simpa using this
          subst this
          rw [hd, List.append_nil]; exact hfit
        · cases h
      · cases h
    · rename_i m e hu
      split at h
      · rename_i a ha
        split at h
        · rename_i hc
          simp only [Option.some.injEq] at h; subst h
          obtain ⟨xs, k, rfl, _, hlen, hxl, hf⟩ := DataW.trod_array hu hx
          obtain ⟨pre, rest, hd, hfit⟩ := repeat_fit (a := a) (c := P.cellsOf e) m cs (fun i hi => by
            have hi' : i < xs.length := by omega
            have e2 := hf i hi
            rw [List.getElem?_eq_getElem hi'] at e2
            exact flat_fits n e a ha k _ _ e2)
          have e3 := fits_length hfit
          rw [repeat_length] at e3
          have : rest = [] := by
            have h1 := congrArg List.length hd
            rw [List.length_append, e3, hc.1, hc.2] at h1
            have : rest.length = 0 := by omega
            simpa using this
          subst this
          rw [hd, List.append_nil]; exact hfit
        · cases h
      · cases h
    · cases h

/-- A struct by value comes as its cells, each within its kind. -/
theorem open_flat {r : Reach} {b0 : Nat} {t : TypeId} {fs : Array Field} {ls : List Leaf} {v : Value} {d : DataW H} {p : List MemPlace} (n : Nat) (hs : P.underlying t = some (.struct fs)) (hl : leaves P n t = some ls)
    (hv : Value.okWide P w r b0 t v) (h : DataW.Trod enc P w base spare held t v d p) : ∃ cs : List Value, v = .agg cs.toArray ∧ Fits ls cs := by
  obtain ⟨cs, rfl, _⟩ := okWide_struct hs hv
  obtain ⟨fuel, hf⟩ := h
  exact ⟨cs.toList, rfl, flat_fits n t ls hl fuel _ _ (by simpa [Value.cells] using hf)⟩

end
end Go.Proofs.YtpkamfbjgdmmoaaGreat
end

section
namespace Go.Proofs.YtpkamfbjgdmmoaaGreat
open Go.ChangeShapes Go.WideShapes Go.ChangeAt Go.RowKit Go.Deep
set_option linter.unusedVariables false

/-- A slice of integers reads as these. -/
def RdI (w : World) (v : Value) (l : List Int) : Prop :=
  (v = .slice none 0 0 ∧ l = []) ∨ ∃ a cap, v = .slice (some a) l.length cap ∧ l.length ≤ cap ∧ ∀ i, i < l.length → w.cell? (a.add i) = some (.int .i64 (l.getD i 0))
theorem cell_blockI {w : World} {a : Addr} {v : Value} (h : w.cell? a = some v) : a.block < w.heap.size := by
  by_cases hh : a.block < w.heap.size
  · exact hh
  · simp [World.cell?, Array.getElem?_eq_none (Nat.le_of_not_lt hh)] at h
theorem RdI.below {w w' : World} {v : Value} {l : List Int} (h : RdI w v l) (hb : Below w.heap.size w w') : RdI w' v l := by
  rcases h with h | ⟨a, cap, hv, hc, hcell⟩
  · exact .inl h
  · refine .inr ⟨a, cap, hv, hc, fun i hi => ?_⟩
    have hl := cell_blockI (hcell i hi)
    rw [hb.cell hl]; exact hcell i hi
theorem RdI.lenOf {w : World} {v : Value} {l : List Int} (h : RdI w v l) : ∃ ao cap, v = .slice ao l.length cap := by
  rcases h with ⟨rfl, rfl⟩ | ⟨a, cap, rfl, -⟩
  · exact ⟨_, _, rfl⟩
  · exact ⟨_, _, rfl⟩
theorem RdI.at {w : World} {ao : Option Addr} {n cap : Nat} {l : List Int} (h : RdI w (.slice ao n cap) l) {i : Nat} (hi : i < l.length) : ∃ a, ao = some a ∧ w.cell? (a.add i) = some (.int .i64 (l.getD i 0)) := by
  rcases h with ⟨hv, rfl⟩ | ⟨a, cap', hv, hc, hcell⟩
  · simp at hi
  · injection hv with h1 h2 h3
    exact ⟨a, h1, hcell i hi⟩

section
variable {H : Type} {enc : TypeId × Value → H} {P : Program} {w : World} {base : Nat} {held : Bool}
theorem open_RdI0 {t e : TypeId} {k : IntKind} {v : Value} {d : DataW H} {p : List MemPlace} (ht : P.underlying t = some (.slice e)) (he : P.underlying e = some (.int k)) (hc : P.cellsOf e = 1)
    (h : ∃ fuel, DataW.trod enc P w base (fun _ => true) held fuel t [v] = some (d, p)) : (v = .slice none 0 0) ∨
      ∃ (a : Addr) (len cap : Nat) (zs : List Int), v = .slice (some a) len cap ∧ len ≤ cap ∧ cap ≤ maxLen ∧ zs.length = cap ∧ (∀ i, i < cap → w.cell? (a.add i) = some (.int k (zs.getD i 0))) ∧ (∀ n ∈ zs, (Lit.int k n).wf = true) := by
  obtain ⟨fuel, hf⟩ := h
  rcases open_ints ht he hc hf with ⟨hcs, -⟩ | ⟨a, len, cap, zs, hcs, hb, hl, hm, hz, -, hcell, hwz⟩
  · exact .inl (by simpa using hcs)
  · simp only [if_true] at hz
    exact .inr ⟨a, len, cap, zs, by simpa using hcs, hl, hm, hz, fun i hi => hcell i (by omega), hwz⟩
theorem cells_sliceI {v : Value} {r : Reach} {b0 : Nat} {t e : TypeId} (ht : P.underlying t = some (.slice e)) (hv : Value.okWide P w r b0 t v) : v.cells.toList = [v] := by
  unfold Value.okWide at hv
  rw [ht] at hv
  simp only [Cell.okWide, Cell.ok, ht] at hv
  cases v <;> simp [Value.cells] at hv ⊢
theorem open_RdI {t e : TypeId} {v : Value} {d : DataW H} {p : List MemPlace} {r : Reach} {b0 : Nat} (ht : P.underlying t = some (.slice e)) (he : P.underlying e = some (.int .i64)) (hc : P.cellsOf e = 1)
    (hv : Value.okWide P w r b0 t v) (h : DataW.Trod enc P w base (fun _ => true) held t v d p) : ∃ l : List Int, RdI w v l ∧ (∀ n ∈ l, (Lit.int .i64 n).wf = true) ∧ l.length ≤ maxLen := by
  obtain ⟨fuel, hf⟩ := h
  rw [cells_sliceI ht hv] at hf
  rcases open_RdI0 ht he hc ⟨fuel, hf⟩ with rfl | ⟨a, len, cap, zs, rfl, hl, hm, hz, hcell, hw⟩
  · exact ⟨[], .inl ⟨rfl, rfl⟩, by simp, by simp⟩
  · have hlen : (zs.take len).length = len := by simp; omega
    refine ⟨zs.take len, .inr ⟨a, cap, by rw [hlen], by rw [hlen]; exact hl, fun i hi => ?_⟩, fun n hn => hw n (List.mem_of_mem_take hn), by rw [hlen]; omega⟩
    rw [hlen] at hi
    rw [hcell i (by omega)]
    have hiz : i < zs.length := by omega
    simp [hiz, hi]
end
end Go.Proofs.YtpkamfbjgdmmoaaGreat
end

section
namespace Go.Proofs.YtpkamfbjgdmmoaaGreat
open Go.RowKit Go.Maps Go.Shelf
set_option linter.unusedVariables false
set_option linter.unusedSimpArgs false

/-- The accounts of some balances. -/
def accL (l : List Int) : Acc := fun k => (l.getD k 0, 0)
def newOk (l : List Int) : Prop := l.length ≤ 10 ∧ (∀ k, k < l.length → isBal (l.getD k 0)) ∧ sumTo (accL l) 10 ≤ 1073741824
theorem accL_nil : accL [] = acc0 := by funext k; simp [accL, acc0]
theorem take_getD {l : List Int} {k j : Nat} : (l.take k).getD j 0 = if j < k then l.getD j 0 else 0 := by
  by_cases h : j < k
  · rw [if_pos h, List.getD_eq_getElem?_getD, List.getD_eq_getElem?_getD, List.getElem?_take_of_lt h]
  · rw [if_neg h, List.getD_eq_getElem?_getD, List.getElem?_eq_none (by simp; omega)]; rfl
theorem accL_step (l : List Int) (k : Nat) : upd (accL (l.take k)) k (l.getD k 0, (accL (l.take k) k).2) = accL (l.take (k + 1)) := by
  funext j
  by_cases e : j = k
  · subst e
    rw [upd_same]
    show (l.getD j 0, (0 : Int)) = ((l.take (j + 1)).getD j 0, 0)
    rw [take_getD, if_pos (by omega)]
  · rw [upd_other _ _ e]
    show ((l.take k).getD j 0, (0 : Int)) = ((l.take (k + 1)).getD j 0, 0)
    rw [take_getD, take_getD]
    by_cases h : j < k
    · rw [if_pos h, if_pos (by omega)]
    · rw [if_neg h, if_neg (by omega)]
theorem sum_accL_step (l : List Int) {k : Nat} (hk : k < 10) : sumTo (accL (l.take (k + 1))) 10 = sumTo (accL (l.take k)) 10 + l.getD k 0 := by
  rw [← accL_step, sumTo_upd, if_pos hk]
  have : both (accL (l.take k)) k = 0 := by unfold both accL; rw [take_getD, if_neg (by omega)]; rfl
  rw [this]
  show sumTo (accL (l.take k)) 10 + (l.getD k 0 + 0 - 0) = _
  omega
theorem accL_ok {l : List Int} (h : ∀ k, k < l.length → isBal (l.getD k 0)) (hs : sumTo (accL l) 10 ≤ 1073741824) : AccOk (accL l) := by
  refine ⟨fun k => ?_, fun k => by simp [accL], hs⟩
  unfold accL
  by_cases c : k < l.length
  · exact (h k c).1
  · rw [List.getD_eq_getElem?_getD, List.getElem?_eq_none (by omega)]; simp
theorem sum_accL_mono {l : List Int} (h : ∀ k, k < l.length → isBal (l.getD k 0)) (k : Nat) : sumTo (accL (l.take k)) 10 ≤ sumTo (accL l) 10 := by
  have key : ∀ n, sumTo (accL (l.take k)) n ≤ sumTo (accL l) n := by
    intro n
    induction n with
    | zero => exact Int.le_refl _
    | succ n ih =>
      rw [sumTo, sumTo]
      have : both (accL (l.take k)) n ≤ both (accL l) n := by
        unfold both accL
        rw [take_getD]
        by_cases c : n < l.length
        · have := (h n c).1; split <;> simp only <;> omega
        · have e : l.getD n 0 = 0 := by rw [List.getD_eq_getElem?_getD, List.getElem?_eq_none (by omega)]; rfl
          rw [e]; split <;> simp
      omega
  exact key 10
theorem newOk_nil : newOk [] := ⟨by simp, fun k hk => absurd hk (Nat.not_lt_zero k), by rw [accL_nil]; decide⟩
theorem LdAt.start {N g gl : Nat} {w1 w2 : World} (ho : GrOwn codI 209 N gl [] w1) (hN : N ≤ w1.heap.size) (hg : g = w1.heap.size) (hw : w2 = w1.alloc (.cells (lcells acc0 gl).toArray 148)) : LdAt N g gl acc0 [] w2 ∧ Below N w1 w2 := by
  obtain ⟨F, h1, h2⟩ := ho
  have hB : Below w1.heap.size w1 w2 := by rw [hw]; exact (Below.refl _ w1).alloc (Nat.le_refl _) _
  refine ⟨⟨by rw [hw, hg]; exact World.alloc_heap_new _ _, ⟨F, h1.keep (Grow.of_below hB) (fun k hk => hB.block k (h1.2.2.1 k hk)), fun k hk => ⟨h2 k hk, fun e => by have := h1.2.2.1 k hk; omega⟩⟩, by omega, AccOk.zero, by simp⟩, hB.mono hN⟩
set_option maxRecDepth 100000 in
set_option maxHeartbeats 4000000 in
theorem ledger_New (v : Value) (l : List Int) (w : World) (hr : RdI w v l) (hm : l.length ≤ maxLen) : Calls Tryz.prog 28 #[v] w fun e w' => Below w.heap.size w w' ∧ ((newOk l ∧ ∃ g, e = .returned (.tuple #[.pointer (some ⟨g, 0, none⟩), .int .i64 0]) ∧ ∃ gl, LdAt w.heap.size g gl (accL l) [] w') ∨ (¬ newOk l ∧ e = .returned (.tuple #[.pointer none, .int .i64 1]))) := by
  obtain ⟨ao, cap, rfl⟩ := hr.lenOf
  obtain ⟨L, hL⟩ : ∃ L, L = l.length := ⟨_, rfl⟩
  rw [← hL] at hr hm ⊢
  have HR := Lib.hid (And.intro hr hL)
  clear hr hm hL
  go_enter Tryz.func28, Tryz.ntmps28
  by_cases c0 : (10 : Int) < (L : Int)
  · go_wp2_with fail
    exact bodyPost_ret (v := .tuple #[.pointer none, .int .i64 1]) (by simp [results, Tryz.results28, go_sem]) rfl ⟨Below.refl _ _, .inr ⟨fun h => by have := h.1; have := HR.out.2; omega, rfl⟩⟩
  have hL10 : L ≤ 10 := by omega
  go_wp2_with (first
    | (go_at_call 70; refine (grid_New_own_I w).mono ?_; rintro e w1 ⟨gl, rfl, ho1, hb1⟩; have H1 := Lib.hid (And.intro ho1 hb1); clear ho1 hb1)
    | fail)
  obtain ⟨w2, hw2⟩ : ∃ w2, w2 = w1.alloc (.cells #[.int .i64 0, .int .i64 0, .int .i64 0, .int .i64 0, .int .i64 0, .int .i64 0, .int .i64 0, .int .i64 0, .int .i64 0, .int .i64 0, .int .i64 0, .int .i64 0, .int .i64 0, .int .i64 0, .int .i64 0, .int .i64 0, .int .i64 0, .int .i64 0, .int .i64 0, .int .i64 0, .pointer (some ⟨gl, 0, none⟩)] 148) := ⟨_, rfl⟩
  obtain ⟨g, hg⟩ : ∃ g, g = w1.heap.size := ⟨_, rfl⟩
  obtain ⟨hl0, hb0⟩ := LdAt.start H1.out.1 H1.out.2.size hg (hw2.trans rfl)
  rw [← hw2, ← hg]
  have H2 := Lib.hid (And.intro hl0 (H1.out.2.trans hb0))
  clear hw2 hg hl0 hb0 H1
  go_loopw [15] (fun i wr => ∃ k : Nat, k ≤ L ∧ i = .int .i64 k ∧ (∀ j, j < k → isBal (l.getD j 0)) ∧ LdAt w.heap.size g gl (accL (l.take k)) [] wr ∧ Below w.heap.size w wr) (fun i _ => L - (intOf i).toNat)
  case atStart => exact ⟨0, by omega, rfl, fun j hj => by omega, by rw [List.take_zero, accL_nil]; exact H2.out.1, H2.out.2⟩
  case round =>
    obtain ⟨k, hk, rfl, hbs, hld, hbl⟩ := hrel
    have HS := Lib.hid (And.intro hbs (And.intro hld hbl))
    by_cases hlt : k < L
    · have hlt' : (k : Int) < L := by omega
      have hk10 : (k : Int) < 10 := by omega
      obtain ⟨a, rfl, ca⟩ := (HR.out.1.below hbl).at (show k < l.length by rw [← HR.out.2]; exact hlt)
      obtain ⟨n, hn⟩ : ∃ n, n = l.getD k 0 := ⟨_, rfl⟩
      rw [← hn] at ca
      obtain ⟨s, hs⟩ : ∃ s, s = sumTo (accL (l.take k)) 10 := ⟨_, rfl⟩
      have hs0 : 0 ≤ s ∧ s ≤ 1073741824 := by rw [hs]; exact hld.ok.part (Nat.le_refl _)
      have hiss := ledger_Issued hld
      rw [← hs] at hiss
      have HI := Lib.hid hiss
      have hs1 : sumTo (accL (l.take (k + 1))) 10 = s + n := by rw [hs, hn]; exact sum_accL_step l (by omega)
      have HN := Lib.hid (And.intro hn hs1)
      clear hiss hs hn hs1 hbs hld hbl
      by_cases hbal : isBal n
      · have hbal' := hbal
        unfold isBal at hbal'
        have hd : decide (0 ≤ n ∧ n ≤ 1073741824) = true := decide_eq_true hbal'
        obtain ⟨sn, hsn⟩ : ∃ sn, sn = s + n := ⟨_, rfl⟩
        have hn2 : IntKind.i64.wrap (s + n) = sn := by rw [hsn]; exact IntWalk.i64_in _ (by omega)
        by_cases hov : 1073741824 < sn
        · have hd2 : decide (0 ≤ sn ∧ sn ≤ 1073741824) = false := decide_eq_false (by omega)
          have hbad : ¬ newOk l := fun h => by have h1 := sum_accL_mono h.2.1 (k + 1); have h2 := HN.out.2; have h3 := h.2.2; omega
          have HD := Lib.hid (And.intro hd (And.intro hd2 hbad))
          clear hbal hbal' hd hsn hd2 hov hbad hs0
          have tok : True := trivial
          go_wp2_with (first
            | (go_at_call 71; have _t := tok; refine (bound_Balance n _).mono ?_; rw [HD.out.1]; rintro e w' ⟨rfl, hw⟩; rw [hw]; clear hw w' tok)
            | (go_at_call 72; refine HI.out.mono ?_; rintro e w3 ⟨rfl, hb⟩; have H3 := Lib.hid hb; clear hb)
            | (go_at_call 71; refine (bound_Balance sn _).mono ?_; rw [HD.out.2.1]; rintro e w' ⟨rfl, hw⟩; rw [hw]; clear hw w')
            | fail)
          exact bodyPost_ret (v := .tuple #[.pointer none, .int .i64 1]) (by simp [results, Tryz.results28, go_sem]) rfl ⟨HS.out.2.2.trans (H3.out.mono HS.out.2.2.size), .inr ⟨HD.out.2.2, rfl⟩⟩
        · have hd2 : decide (0 ≤ sn ∧ sn ≤ 1073741824) = true := decide_eq_true (by omega)
          have hok2 : AccOk (upd (accL (l.take k)) k (n, (accL (l.take k) k).2)) := by
            have hld := HS.out.2.1
            have h1 := HN.out.2
            rw [HN.out.1, ← accL_step] at h1
            rw [HN.out.1] at hsn hbal'
            rw [HN.out.1]
            refine ⟨fun j => ?_, fun j => ?_, by omega⟩
            · by_cases e : j = k
              · subst e; rw [upd_same]; exact hbal'.1
              · rw [upd_other _ _ e]; exact hld.ok.free j
            · by_cases e : j = k
              · subst e; rw [upd_same]; exact hld.ok.held j
              · rw [upd_other _ _ e]; exact hld.ok.held j
          have hpay : ∀ w1, LdAt w.heap.size g gl (accL (l.take k)) [] w1 → LdAt w.heap.size g gl (accL (l.take (k + 1))) [] (w1.setCell ⟨g, k * 2, none⟩ (.int .i64 n)) ∧ Below w.heap.size w1 (w1.setCell ⟨g, k * 2, none⟩ (.int .i64 n)) := fun w1 h1 => by
            have := h1.setFree (a := k) (by omega) n hok2
            refine ⟨?_, this.2⟩
            rw [← accL_step, ← HN.out.1]; exact this.1
          have HD := Lib.hid (And.intro hd (And.intro hd2 hbal))
          have HP := Lib.hid hpay
          clear hbal hbal' hd hsn hd2 hov hs0 hok2 hpay
          have tok : True := trivial
          go_wp2_with (first
            | (go_at_call 71; have _t := tok; refine (bound_Balance n _).mono ?_; rw [HD.out.1]; rintro e w' ⟨rfl, hw⟩; rw [hw]; clear hw w' tok)
            | (go_at_call 72; refine HI.out.mono ?_; rintro e w3 ⟨rfl, hb⟩; have h3 := HS.out.2.1.below hb; have hf3 := h3.frozen (k * 2); have hc3 := h3.free (k := k) (by omega); have H3 := Lib.hid (And.intro h3 (hb.mono HS.out.2.2.size)); clear hb h3)
            | (go_at_call 71; refine (bound_Balance sn _).mono ?_; rw [HD.out.2.1]; rintro e w' ⟨rfl, hw⟩; rw [hw]; clear hw w')
            | fail)
          go_roundw
          case rel =>
            refine ⟨k + 1, by omega, by go_num, fun j hj => ?_, (HP.out _ H3.out.1).1, HS.out.2.2.trans (H3.out.2.trans (HP.out _ H3.out.1).2)⟩
            by_cases e : j = k
            · subst e; rw [← HN.out.1]; exact HD.out.2.2
            · exact HS.out.1 j (by omega)
          case measure => simp [intOf]; omega
      · have hd : decide (0 ≤ n ∧ n ≤ 1073741824) = false := by unfold isBal at hbal; exact decide_eq_false hbal
        have hbad : ¬ newOk l := fun h => hbal (by rw [HN.out.1]; exact h.2.1 k (by rw [← HR.out.2]; exact hlt))
        have HD := Lib.hid (And.intro hd hbad)
        clear hbal hd hbad hs0
        go_wp2_with (first
          | (go_at_call 71; refine (bound_Balance n _).mono ?_; rw [HD.out.1]; rintro e w' ⟨rfl, hw⟩; rw [hw]; clear hw w')
          | fail)
        exact bodyPost_ret (v := .tuple #[.pointer none, .int .i64 1]) (by simp [results, Tryz.results28, go_sem]) rfl ⟨HS.out.2.2, .inr ⟨HD.out.2, rfl⟩⟩
    · have hge : ¬ (k : Int) < L := by omega
      have hkl : l.take k = l := List.take_of_length_le (by have := HR.out.2; omega)
      have hfin : newOk l ∧ LdAt w.heap.size g gl (accL l) [] wr := by
        rw [hkl] at hld
        exact ⟨⟨by have := HR.out.2; omega, fun j hj => hbs j (by have := HR.out.2; omega), hld.ok.all⟩, hld⟩
      have HF := Lib.hid hfin
      clear hfin hkl hbs hld hbl
      go_wp2_with fail
      exact bodyPost_ret (v := .tuple #[.pointer (some ⟨g, 0, none⟩), .int .i64 0]) (by simp [results, Tryz.results28, go_sem]) rfl ⟨HS.out.2.2, .inl ⟨HF.out.1, g, rfl, gl, HF.out.2⟩⟩
end Go.Proofs.YtpkamfbjgdmmoaaGreat
end
