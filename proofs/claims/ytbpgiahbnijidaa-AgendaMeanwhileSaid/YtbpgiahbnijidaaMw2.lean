/-
  AgendaMeanwhile, walked.
-/
import Derived.Test.YtbpgiahbnijidaaMw1
import Derived.Test.YtbpgiahbnijidaaIterE
namespace Go.Proofs.Ytbpgiahbnijidaa
open Go.RowKit Go.Shelf
attribute [local go_sem] Oper.semAt_some
set_option linter.unusedVariables false
set_option linter.unusedSimpArgs false
theorem run_seq_nil' (f : Fn) (lb : Array Value) (w : World) : (binOp .eql 52 (.func f #[] lb) .nilFunc).run Try.prog w = .ok (.bool false) w := by rfl

attribute [local go_sem ↓] build_tk
set_option maxHeartbeats 4000000 in
set_option maxRecDepth 100000 in
theorem agendaMeanwhile_main (n st : Nat) (w : World) (hn : n ≤ 12) (hs1 : 1 ≤ st) (hs2 : st ≤ 20) :
    Calls Try.prog 8 #[.int .i64 n, .int .i64 st] w fun e w' => e = .returned (.bool true) ∧ Below w.heap.size w w' := by
  refine (callsIn_wide (n := 3)).1 ?_
  have d1 : decide ((n : Int) < 0) = false := by simp
  have d2 : decide ((12 : Int) < (n : Int)) = false := by simp; omega
  have d3 : decide ((st : Int) < 1) = false := by simp; omega
  have d4 : decide ((20 : Int) < (st : Int)) = false := by simp; omega
  have RB := run_build2
  have RN := run_seq_nil'
  obtain ⟨sb, hsb⟩ : ∃ sb, sb = w.heap.size := ⟨_, rfl⟩
  obtain ⟨qb, hqb⟩ : ∃ qb, qb = sb + 1 := ⟨_, rfl⟩
  obtain ⟨g, hg⟩ : ∃ g, g = qb + 1 := ⟨_, rfl⟩
  obtain ⟨xb, hxb⟩ : ∃ xb, xb = g + 1 := ⟨_, rfl⟩
  have HSB := Lib.hid hsb
  have HQB := Lib.hid hqb
  have HGB := Lib.hid hg
  have HXB := Lib.hid hxb
  clear hsb hqb hg hxb
  refine callsIn_of_wp_marks Try.func8 rfl trivial ?_ rfl
  simp only [Try.ntmps8, List.size_toArray, List.length_cons, List.length_nil, Nat.reduceAdd, Nat.reduceSub, Array.replicate_succ, Array.replicate_zero, List.push_toArray, List.append_toArray, List.nil_append, List.cons_append]
  gi_wp2_with (first
    | (gi_at_call 11; refine (callsIn_wide.2 (agenda_New _)).mono ?_; rintro e w1 ⟨rfl, rfl⟩)
    | (refine ⟨trivial, ?_⟩; gi_at_call 11; refine (callsIn_wide.2 (agenda_New _)).mono ?_; rintro e w1 ⟨rfl, rfl⟩)
    | fail)
  have hm0 := mw_new w (st : Int)
  obtain ⟨W0, hW0⟩ : ∃ W0, W0 = ((((w.alloc (.cells #[.int .i64 (st : Int)] 3)).alloc (.cells #[.bool false] 4)).alloc (.cells #[.slice none 0 0] 57)).alloc (.cells #[.pointer (some ⟨w.heap.size + 1 + 1, 0, none⟩)] 23)) := ⟨_, rfl⟩
  rw [← hW0] at hm0 ⊢
  rw [← HSB.out, ← HQB.out, ← HGB.out, ← HXB.out] at hm0 ⊢
  have HM0 := Lib.hid hm0
  clear hm0 hW0
  gi_loopw [6] (fun i wr => ∃ (k : Nat), k ≤ n ∧ i = .int .i64 k ∧ MwSt w sb qb xb g st (upL k) wr) (fun i _ => n - (intOf i).toNat)
  case atStart => exact ⟨0, by omega, rfl, HM0.out⟩
  case round =>
    obtain ⟨k, hk, rfl, hs⟩ := hrel
    clear HM0
    have cX := hs.bx.cell
    have HS1 := Lib.hid hs
    clear hs
    by_cases hlt : k < n
    · have hlt' : (k : Int) < n := by omega
      obtain ⟨T1, hT1⟩ : ∃ T1, T1 = mkT (k : Nat) (k : Nat) := ⟨_, rfl⟩
      have B1 := RB (k : Nat) (k : Nat)
      rw [← hT1] at B1
      have l := up_put k (by omega)
      rw [← hT1] at l
      have L := Lib.hid l
      have hsr := Lib.hid (srtD _ (up_srt' k (by omega)))
      clear l hT1 RB
      gi_wp2_with (first
        | (gi_at_call 12; with_reducible refine (callsIn_wide.2 (MwSt.put T1 HS1.out hsr.out (by rw [upL_len]; omega))).mono ?_; rw [L.out]; rintro e w2 ⟨rfl, hs⟩; have HS := Lib.hid hs; clear hs)
        | (refine ⟨trivial, ?_⟩; gi_at_call 12; with_reducible refine (callsIn_wide.2 (MwSt.put T1 HS1.out hsr.out (by rw [upL_len]; omega))).mono ?_; rw [L.out]; rintro e w2 ⟨rfl, hs⟩; have HS := Lib.hid hs; clear hs)
        | fail)
      exact ⟨⟨k + 1, by omega, by go_num, HS.out⟩, by simp [intOf]; omega⟩
    · have hkn : k = n := by omega
      subst hkn
      clear RB hlt hk
      obtain ⟨wq, hwq⟩ : ∃ wq, wq = wr := ⟨_, rfl⟩
      subst hwq
      gi_wp2_with (first
        | (gi_at_call 22; refine (callsIn_wide.2 (agenda_All _ ⟨_, rfl⟩ _)).mono ?_; rintro e w1 ⟨rfl, hw1⟩)
        | (refine ⟨trivial, ?_⟩; gi_at_call 22; refine (callsIn_wide.2 (agenda_All _ ⟨_, rfl⟩ _)).mono ?_; rintro e w1 ⟨rfl, hw1⟩)
        | fail)
      rw [← hw1]
      obtain ⟨w2, hw2⟩ : ∃ w2, w2 = w1.alloc (.cells #[.int .i64 0] 3) := ⟨_, rfl⟩
      rw [← hw2]
      obtain ⟨ab, hab⟩ : ∃ ab, ab = wq.heap.size := ⟨_, rfl⟩
      obtain ⟨kb, hkb⟩ : ∃ kb, kb = ab + 1 := ⟨_, rfl⟩
      have hsz : w2.heap.size = ab + 2 := by rw [hw2, hw1, hab]; simp
      have hB : Below wq.heap.size wq w2 := by rw [hw2, hw1]; exact ((Below.refl _ wq).alloc (Nat.le_refl _) _).alloc (by simp) _
      have x1 : Boxed w2 ab 23 (.pointer (some ⟨g, 0, none⟩)) := by rw [hw2, hw1, hab]; exact (Boxed.new wq _ _).alloc _
      have x2 : Boxed w2 kb 3 (.int .i64 ((0 : Nat) : Int)) := by
        have := Boxed.new (wq.alloc (.cells #[.pointer (some ⟨g, 0, none⟩)] 23)) 3 (.int .i64 ((0 : Nat) : Int))
        rw [World.size_alloc] at this
        rw [hw2, hw1, hkb, hab]; exact this
      rw [← hab, ← hkb]
      obtain ⟨⟨v0, hA⟩, hOld, y1, y2, y3⟩ := HS1.out
      have hlb := hOld.size
      have hA2 := hA.later hB
      have z1 : Boxed w2 sb 3 (.int .i64 (st : Nat)) := (hB.block sb y1.lt).trans y1
      have z2 : Boxed w2 qb 4 (.bool false) := (hB.block qb y2.lt).trans y2
      have z3 : Boxed w2 xb 23 (.pointer (some ⟨g, 0, none⟩)) := (hB.block xb y3.lt).trans y3
      have l1 : sb < kb := by have := y1.lt; omega
      have l2 : qb < kb := by have := y2.lt; omega
      have l3 : xb < kb := by have := y3.lt; omega
      have l5 : g < kb := by have := hA.lt; omega
      have hOv : ∀ j, v0.ownBlock = some j → w.heap.size ≤ j ∧ j < ab := fun j hj => by have := hA.own.block hj; omega
      have hit := all_iter 1 ab g v0 (upL k) w2 x1.cell hA2.at_ hA2.own.reads (by rw [upL_len]; omega) (fun j => j < w2.heap.size) (by omega) (by omega) (fun a n0 c e hne => by
        have hk : v0.ownBlock = some a.block := by rw [e]; rfl
        exact (hA2.own.block hk).2)
      have h0 : MwC w.heap.size w2.heap.size sb qb xb kb g k st v0.ownBlock 0 (fun _ => False) w2 v0 := ⟨by rw [List.drop_zero]; exact hA2, fun j hj => .inl hj, fun j hj => hj.elim, z1, z2, z3, x2, Nat.le_refl _⟩
      have hwq : Below w.heap.size w w2 := hOld.trans (hB.mono hlb)
      have hws : w.heap.size ≤ w2.heap.size := by omega
      have hgw : w.heap.size ≤ g := hA.lo
      have hqw : w.heap.size ≤ qb := by have := HQB.out; have := HSB.out; omega
      have H0 := Lib.hid h0
      have HB2 := Lib.hid hwq
      have HOV := Lib.hid hOv
      have hak : ab < kb := by omega
      have hkw : kb < w2.heap.size := by omega
      clear hkb hsz x1 x2 hw1 hw2 hab hA2 z1 z2 z3 y1 y2 y3 hA hOld hB h0 hwq cX hOv
      obtain ⟨ov, hov⟩ : ∃ ov, ov = v0.ownBlock := ⟨_, rfl⟩
      rw [← hov] at H0 HOV
      clear hov
      refine range_outerA1 (n := 1) (gf := 29) (lb := #[.pointer (some ⟨ab, 0, none⟩)]) rfl enters_all hit (Grow.refl _) (fun k hk => ⟨hk, rfl⟩) (fun _ => rfl)
        (fun j => j = kb ∨ j = g ∨ ov = some j) (by rintro j (rfl | rfl | h); omega; omega; have := HOV.out j h; omega) (MwI w.heap.size w2.heap.size sb qb xb kb g k st ov) (MwX w.heap.size w2.heap.size sb qb xb kb g k st ov)
        (MwI.stab (by omega) (by omega) (by omega) (by omega) (by omega) (fun j h => by have := HOV.out j h; omega)) (fun c => MwX.stab (by omega) (by omega) (by omega) (by omega) (by omega) (fun j h => by have := HOV.out j h; omega) c)
        ⟨by simp; omega, _, H0.out⟩
        (fun x N => { tmps := #[.int .i64 (k : Nat), .int .i64 (st : Nat), undef, .pointer (some ⟨sb, 0, none⟩), .pointer (some ⟨qb, 0, none⟩), .pointer (some ⟨xb, 0, none⟩), .int .i64 (k : Nat), .func (.func 29) #[] #[.pointer (some ⟨ab, 0, none⟩)], .pointer (some ⟨kb, 0, none⟩), .pointer (some ⟨N, 0, none⟩), .int .i64 (k : Nat), .bool false, .bool false, .int .i64 (k : Nat), .bool false, .bool false, .bool false, .int .i64 (st : Nat), .bool false, .bool false, .bool false, .int .i64 (st : Nat), .bool false, .bool false, .pointer (some ⟨g, 0, none⟩), .pointer (some ⟨g, 0, none⟩), .bool false, .int .i64 (k : Nat), .int .i64 (k : Nat), .bool false, u30, u31, u32, u33, u34, u35, u36, .pointer (some ⟨g, 0, none⟩), .func (.func 29) #[] #[.pointer (some ⟨ab, 0, none⟩)], .func (.func 29) #[] #[.pointer (some ⟨ab, 0, none⟩)], .bool false, .func (.func 29) #[] #[.pointer (some ⟨ab, 0, none⟩)], .agg (tc x).toArray, undef, undef, undef, undef, undef, undef, undef, undef, undef, undef, undef, undef, undef, undef, undef, undef, undef, undef, undef, undef, undef, undef, undef, undef, undef, undef, undef, undef], defers := [] })
        (fun x N W => W.heap[N]? = some (.cells (tc x).toArray 32 (0, 0))) (fun x N W W' h e => e.trans h) ?assign ?body (MwF w.heap.size w2.heap.size sb qb xb kb g k st ov) ?f1 ?f2 ?fin
      case assign =>
        intro l x W K hK
        refine frame_eq (b := { tmps := #[.int .i64 (k : Nat), .int .i64 (st : Nat), undef, .pointer (some ⟨sb, 0, none⟩), .pointer (some ⟨qb, 0, none⟩), .pointer (some ⟨xb, 0, none⟩), .int .i64 (k : Nat), .func (.func 29) #[] #[.pointer (some ⟨ab, 0, none⟩)], .pointer (some ⟨kb, 0, none⟩), undef, .int .i64 (k : Nat), .bool false, .bool false, .int .i64 (k : Nat), .bool false, .bool false, .bool false, .int .i64 (st : Nat), .bool false, .bool false, .bool false, .int .i64 (st : Nat), .bool false, .bool false, .pointer (some ⟨g, 0, none⟩), .pointer (some ⟨g, 0, none⟩), .bool false, .int .i64 (k : Nat), .int .i64 (k : Nat), .bool false, u30, u31, u32, u33, u34, u35, u36, .pointer (some ⟨g, 0, none⟩), .func (.func 29) #[] #[.pointer (some ⟨ab, 0, none⟩)], .func (.func 29) #[] #[.pointer (some ⟨ab, 0, none⟩)], .bool false, .func (.func 29) #[] #[.pointer (some ⟨ab, 0, none⟩)], .agg (tc x).toArray, undef, undef, undef, undef, undef, undef, undef, undef, undef, undef, undef, undef, undef, undef, undef, undef, undef, undef, undef, undef, undef, undef, undef, undef, undef, undef, undef, undef], defers := [] }) (by simp) ?_
        gi_wp2_with (first
          | (refine wplIn_allocT rfl rfl ?_; intro C hC)
          | (refine wplIn_storeT (t := x) (C := C) _ _ rfl rfl rfl rfl (heap_alloc_new W _) hC ?_)
          | fail)
        refine hK _ ?_ (by simp) (setRow_heap _ _ _ _ _ _ (heap_alloc_new W _))
        exact ((Below.refl _ W).alloc (Nat.le_refl _) _).trans ⟨rfl, rfl, rfl, by simp, fun k hk => setRow_other _ _ k _ (by omega)⟩
      case body =>
        rintro l pre x Φ N W hpx ⟨hps, v1, hI⟩ hl hΦ - hlN hNW hAt
        obtain ⟨hpn, hx⟩ := up_pre hpx
        obtain ⟨p, hp⟩ : ∃ p, p = pre.length := ⟨_, rfl⟩
        rw [← hp] at hI hpn hx hps
        have hxn : x.name = (p : Int) := by rw [hx]; rfl
        have cN : W.cell? ⟨N, 0, none⟩ = some (.int .i64 (p : Nat)) := by rw [World.cell?, hAt, ← hxn]; rfl
        have cK := hI.bk.cell
        have cS := hI.bs.cell
        have cX := hI.bx.cell
        have hpl : (pre ++ [x]).length = p + 1 := by simp [hp]
        have HPL := Lib.hid hpl
        have HI := Lib.hid hI
        have hdl : ((upL k).drop p).length ≤ 12 := by simp [upL_len]; omega
        have HDL := Lib.hid hdl
        have hsI : w.heap.size ≤ W.heap.size := by have := hI.sz; omega
        have hWP : IntKind.i64.wrap ((p : Int) + 1) = ((p + 1 : Nat) : Int) := n64_add p 1 (p + 1) rfl (by omega)
        obtain ⟨p1, hp1⟩ : ∃ p1, p1 = p + 1 := ⟨_, rfl⟩
        rw [← hp1] at hWP HPL
        have HP1 := Lib.hid hp1
        clear hI hAt hpx hΦ hpl hdl hx hxn hp hp1
        by_cases hge : st ≤ p1
        · have dge : decide ((st : Int) ≤ (p1 : Int)) = true := by simp; omega
          gi_wp2_with (first
            | (gi_at_call 14; refine (CallsIn.inRound l (callsIn_wide.2 (agenda_Cancel _ g v1 _ (p : Nat) W HI.out.ag HDL.out hsI))).mono ?_; rintro e W2 ⟨rfl, hL2⟩; obtain ⟨Φ', hf1, hf2, v2, hf3⟩ := mw_step HI.out l1 l2 l3 l5 hpn hL2; rw [← HP1.out] at hf2 hf3; have cK2 : W2.cell? ⟨kb, 0, none⟩ = some (.int .i64 (p : Nat)) := (by obtain ⟨v3, -, ho, -⟩ := hL2; exact (aside_kept HI.out.ag HI.out.bk (by decide) (by decide) ho).cell); have fK2 : W2.frozen? ⟨kb, 0, none⟩ = false := (by obtain ⟨v3, -, ho, -⟩ := hL2; exact (aside_kept HI.out.ag HI.out.bk (by decide) (by decide) ho).frozen); have cK3 := hf3.bk.cell; have cS3 := hf3.bs.cell; have HF1 := Lib.hid hf1; have HF2 := Lib.hid hf2; have HF3 := Lib.hid hf3; clear hf1 hf2 hf3 hL2)
            | (refine ⟨trivial, ?_⟩; gi_at_call 14; refine (CallsIn.inRound l (callsIn_wide.2 (agenda_Cancel _ g v1 _ (p : Nat) W HI.out.ag HDL.out hsI))).mono ?_; rintro e W2 ⟨rfl, hL2⟩; obtain ⟨Φ', hf1, hf2, v2, hf3⟩ := mw_step HI.out l1 l2 l3 l5 hpn hL2; rw [← HP1.out] at hf2 hf3; have cK2 : W2.cell? ⟨kb, 0, none⟩ = some (.int .i64 (p : Nat)) := (by obtain ⟨v3, -, ho, -⟩ := hL2; exact (aside_kept HI.out.ag HI.out.bk (by decide) (by decide) ho).cell); have fK2 : W2.frozen? ⟨kb, 0, none⟩ = false := (by obtain ⟨v3, -, ho, -⟩ := hL2; exact (aside_kept HI.out.ag HI.out.bk (by decide) (by decide) ho).frozen); have cK3 := hf3.bk.cell; have cS3 := hf3.bs.cell; have HF1 := Lib.hid hf1; have HF2 := Lib.hid hf2; have HF3 := Lib.hid hf3; clear hf1 hf2 hf3 hL2)
            | fail)
          exact ⟨Φ', HF1.out, HF2.out, rfl, by rw [HPL.out]; have := HP1.out; omega, v2, by rw [HPL.out]; exact HF3.out⟩
        · have dge : decide ((st : Int) ≤ (p1 : Int)) = false := by simp; omega
          gi_wp2_with (first
            | (gi_at_call 14; refine (CallsIn.inRound l (callsIn_wide.2 (agenda_Cancel _ g v1 _ (p : Nat) W HI.out.ag HDL.out hsI))).mono ?_; rintro e W2 ⟨rfl, hL2⟩; obtain ⟨Φ', hf1, hf2, v2, hf3⟩ := mw_step HI.out l1 l2 l3 l5 hpn hL2; rw [← HP1.out] at hf2 hf3; have cK2 : W2.cell? ⟨kb, 0, none⟩ = some (.int .i64 (p : Nat)) := (by obtain ⟨v3, -, ho, -⟩ := hL2; exact (aside_kept HI.out.ag HI.out.bk (by decide) (by decide) ho).cell); have fK2 : W2.frozen? ⟨kb, 0, none⟩ = false := (by obtain ⟨v3, -, ho, -⟩ := hL2; exact (aside_kept HI.out.ag HI.out.bk (by decide) (by decide) ho).frozen); have cK3 := hf3.bk.cell; have cS3 := hf3.bs.cell; have HF1 := Lib.hid hf1; have HF2 := Lib.hid hf2; have HF3 := Lib.hid hf3; clear hf1 hf2 hf3 hL2)
            | (refine ⟨trivial, ?_⟩; gi_at_call 14; refine (CallsIn.inRound l (callsIn_wide.2 (agenda_Cancel _ g v1 _ (p : Nat) W HI.out.ag HDL.out hsI))).mono ?_; rintro e W2 ⟨rfl, hL2⟩; obtain ⟨Φ', hf1, hf2, v2, hf3⟩ := mw_step HI.out l1 l2 l3 l5 hpn hL2; rw [← HP1.out] at hf2 hf3; have cK2 : W2.cell? ⟨kb, 0, none⟩ = some (.int .i64 (p : Nat)) := (by obtain ⟨v3, -, ho, -⟩ := hL2; exact (aside_kept HI.out.ag HI.out.bk (by decide) (by decide) ho).cell); have fK2 : W2.frozen? ⟨kb, 0, none⟩ = false := (by obtain ⟨v3, -, ho, -⟩ := hL2; exact (aside_kept HI.out.ag HI.out.bk (by decide) (by decide) ho).frozen); have cK3 := hf3.bk.cell; have cS3 := hf3.bs.cell; have HF1 := Lib.hid hf1; have HF2 := Lib.hid hf2; have HF3 := Lib.hid hf3; clear hf1 hf2 hf3 hL2)
            | fail)
          exact ⟨Φ', HF1.out, HF2.out, by rw [HPL.out]; omega, v2, by rw [HPL.out]; exact HF3.out⟩
      case f1 =>
        rintro Φ W3 ⟨hst, v3, hC0⟩
        rw [upL_len] at hst hC0
        exact ⟨k, v3, by omega, by omega, hC0⟩
      case f2 =>
        rintro c pre Φ W3 hpre ⟨rfl, hst, v3, hC0⟩
        have hpl := hpre.length_le
        rw [upL_len] at hpl
        exact ⟨rfl, pre.length, v3, by omega, by omega, hC0⟩
      case fin =>
        rintro D Φ W3 ⟨m, v3, hmin, hmk, hC1⟩ hon hD hnD hK
        have cK := hC1.bk.cell
        have cS := hC1.bs.cell
        have cX3 := hC1.bx.cell
        have hql := hC1.bq.lt
        have hAd := hC1.ag.later (show Below W3.heap.size W3 W3.drew from (Below.refl _ W3).drew)
        obtain ⟨r, hr⟩ : ∃ r, r = ((upL k).drop m).length := ⟨_, rfl⟩
        have hkr : m + r = k := by rw [hr, List.length_drop, upL_len]; omega
        have hk6 : k < 1000000 := by omega
        have HAD := Lib.hid hAd
        have HC1 := Lib.hid hC1
        have HON := Lib.hid hon
        have HKK := Lib.hid hK
        have HR := Lib.hid hr
        have HDD := Lib.hid hD
        clear hC1 hon hK hAd hnD hr hD
        have WK := n64_sub k m r hkr hk6
        clear hkr hk6
        gi_wp2
        refine region_calm ?_
        go_region_with (first
          | (go_at_call 20; refine (agenda_Len _ g _ _ _ HAD.out).mono ?_; rw [← HR.out]; rintro e w5 ⟨rfl, rfl⟩)
          | (go_at_call 21; refine (law_known _).mono ?_; rintro e wk ⟨rfl, hk⟩; have bK : Boxed wk qb 4 (.bool false) := (hk.block qb hql).trans HC1.out.bq; have fQ := bK.frozen; have cQ := bK.cell; have HKN := Lib.hid (show Below W3.heap.size W3 wk from (Below.refl _ W3).drew.trans hk); clear hk bK)
          | fail)
        all_goals
          clear WK
          obtain ⟨k5, b5, l5⟩ := mw_end HB2.out hws HON.out (by rintro j (rfl | rfl | h); omega; omega; have := HOV.out j h; omega) HKN.out hqw (by omega) HC1.out.bq HDD.out HKK.out
          have cc := b5.cell
          have K5 := Lib.hid k5
          have L5 := Lib.hid l5
          clear k5 l5 b5
          gi_wp2
          refine ⟨by simp, .inl ⟨_, _, rfl, run_takeDeferred K5.out, ?_⟩⟩
          exact ⟨.bool true, by simp [results, Try.results8, go_sem, cc], rfl, L5.out⟩
end Go.Proofs.Ytbpgiahbnijidaa
