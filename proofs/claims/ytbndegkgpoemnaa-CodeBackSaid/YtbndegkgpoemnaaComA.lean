/-
  Contracts of compact: a number is taken, as the document takes it.
-/
import Derived.Test.YtbndegkgpoemnaaCom8
import Derived.Test.YtbndegkgpoemnaaMono
import Derived.Deep.QuietTactic
import Derived.BigQuiet
import Derived.Deep.RegionHeld3
import Derived.Deep.DeepCutAuto
import Derived.Deep.RegionWith
namespace Go.Proofs.Ytbndegkgpoemnaa
open Go.RowKit
set_option linter.unusedVariables false
set_option linter.unusedSimpArgs false

/-- Bytes shifted and one more, whatever stands at the top. -/
theorem or_shift {V b : Nat} (hV : V < 72057594037927936) (hb : b < 256) :
    bits .or .i64 (IntKind.i64.wrap ((V : Int) * 256)) (b : Int) = IntKind.i64.wrap ((b + 256 * V : Nat) : Int) := by
  have h1 : (BitVec.ofInt 64 (IntKind.i64.wrap ((V : Int) * 256))).toNat = V * 256 := by
    rw [BitVec.toNat_ofInt, IntKind.wrap_i64]; omega
  have h2 : (BitVec.ofInt 64 (b : Int)).toNat = b := by
    rw [BitVec.ofInt_natCast, BitVec.toNat_ofNat]; exact Nat.mod_eq_of_lt (by omega)
  show IntKind.i64.wrap ((BitVec.ofInt 64 (IntKind.i64.wrap ((V : Int) * 256)) ||| BitVec.ofInt 64 (b : Int)).toNat : Int) = _
  have h3 : V * 256 ||| b = b + 256 * V := by
    have := Nat.two_pow_add_eq_or_of_lt (i := 8) (b := b) (by omega) V
    have e : 2 ^ 8 * V = V * 256 := by omega
    rw [e] at this; omega
  rw [BitVec.toNat_or, h1, h2, h3]

theorem wrap64_eq (x : Int) : wrap64 x = IntKind.i64.wrap x := by
  rw [IntKind.wrap_i64]
  unfold wrap64
  exact Eq.refl _

theorem or_shift64 {V b : Nat} (hV : V < 72057594037927936) (hb : b < 256) :
    bits .or .i64 (wrap64 ((V : Int) * 256)) (b : Int) = IntKind.i64.wrap ((b + 256 * V : Nat) : Int) := by
  rw [← or_shift hV hb, wrap64_eq]

set_option maxHeartbeats 1000000 in
theorem ref_Take_0 (v : Value) (w : World) (h : RdB w v []) :
    Calls Try.prog 64 #[v] w fun e w' => e = takeV none ∧ Below w.heap.size w w' := by
  obtain ⟨ao, cap, rfl⟩ := h.lenOf
  simp only [List.length_nil] at *
  go_enter Try.func64, Try.ntmps64
  go_wp2
  go_ret3
  exact ⟨rfl, Below.refl _ _⟩

def tabN (c : Nat) : Nat := if c % 4 = 0 then 1 else if c % 4 = 1 then 2 else if c % 4 = 2 then 4 else 0

/-- Where the bytes of a number begin, and how many they are, by the first one. -/
def headOf (c f s : Nat) : Prop := (c % 4 = 0 ∧ f = 0 ∧ s = 1) ∨ (c % 4 = 1 ∧ f = 0 ∧ s = 2) ∨ (c % 4 = 2 ∧ f = 0 ∧ s = 4) ∨ (c % 4 = 3 ∧ f = 1 ∧ s = c / 4 + 4)

theorem headOf_told {c f s : Nat} (h : headOf c f s) : f + s = toldN c := by
  unfold headOf at h; unfold toldN
  rcases h with ⟨h, rfl, rfl⟩ | ⟨h, rfl, rfl⟩ | ⟨h, rfl, rfl⟩ | ⟨h, rfl, rfl⟩
  · rw [if_pos h]
  · rw [if_neg (by omega), if_pos h]
  · rw [if_neg (by omega), if_neg (by omega), if_pos h]
  · rw [if_neg (by omega), if_neg (by omega), if_neg (by omega)]; omega
theorem headOf_f {c f s : Nat} (h : headOf c f s) : (f = 0 ∧ s ≤ 4) ∨ (f = 1 ∧ 4 ≤ s) := by
  unfold headOf at h; omega
theorem headOf_s {c f s : Nat} (hc : c < 256) (h : headOf c f s) : 1 ≤ s ∧ s ≤ 67 := by
  unfold headOf at h; omega

theorem seg_cons {l : List Nat} {t f j : Nat} (h1 : f + j < t) (h2 : t ≤ l.length) : l.getD (f + j) 0 + 256 * valL (((l.take t).drop f).drop (j + 1)) = valL (((l.take t).drop f).drop j) := by
  have hl : j < ((l.take t).drop f).length := by simp; omega
  rw [List.drop_eq_getElem_cons hl, valL]
  congr 1
  simp [show f + j < l.length by omega]

theorem litOld {w : World} {a : Addr} {v : Value} {o : Obj} (ha : a.block < w.heap.size) (h : w.cell? a = some v) : (w.alloc o).drew.cell? a = some v := by
  rw [World.cell?_drew, World.cell?_alloc_lt _ _ _ ha]; exact h

set_option maxHeartbeats 2000000 in
theorem ref_Take_x (v : Value) (l : List Nat) (w : World) (h : RdB w v l) (hl : l ≠ []) (hb : ∀ b ∈ l, b < 256) :
    Calls Try.prog 64 #[v] w fun e w' => e = takeV (takeL l) ∧ Below w.heap.size w w' := by
  rcases h with ⟨-, h⟩ | ⟨⟨blk, off, spot⟩, cap, rfl, hcap, hcell⟩
  · exact absurd h hl
  have hpos : 0 < l.length := List.length_pos_iff.2 hl
  have h0 := hcell 0 hpos
  obtain ⟨c, hc⟩ : ∃ c, c = l.getD 0 0 := ⟨_, rfl⟩
  have hc2 : c < 256 := hb c (by rw [hc]; simp [hpos])
  rw [← hc] at h0
  have hspot : spot = none := by simpa [Addr.add] using World.cell?_spot h0
  subst hspot
  have hadd : (⟨blk, off, none⟩ : Addr).add 0 = ⟨blk, off, none⟩ := by simp [Addr.add]
  rw [hadd] at h0
  have hne : (l.length == 0) = false := by simp; omega
  have hand : bits .and .u8 (c : Int) 3 = ((c % 4 : Nat) : Int) := by
    have := u8_and_nat c 3 hc2 (by omega)
    rw [show c &&& 3 = c % 4 from Nat.and_two_pow_sub_one_eq_mod c 2] at this
    exact this
  have HC := Lib.hid hc
  have HCell := Lib.hid hcell
  have HBd := Lib.hid hb
  clear hc hcell hb
  go_enter Try.func64, Try.ntmps64
  go_upto_region 3 with fail
  go_cut [5, 6] (fun f s wx => f = .int .i64 0 ∧ s = .int .i64 (tabN c : Nat) ∧ Below w.heap.size w wx ∧ wx.cell? ⟨blk, off, none⟩ = some (.int .u8 (c : Int)))
  case first =>
    have h4 : c % 4 = 0 ∨ c % 4 = 1 ∨ c % 4 = 2 ∨ c % 4 = 3 := by omega
    have h0a : ∀ o, (w.alloc o).cell? ⟨blk, off, none⟩ = some (.int .u8 (c : Int)) := fun o => by rw [World.cell?_alloc_lt _ _ _ (World.block_lt_of_cell? w _ h0)]; exact h0
    rcases h4 with h | h | h | h
    · have hand0 : bits .and .u8 (c : Int) 3 = 0 := by rw [hand, h]; rfl
      have ht : tabN c = 1 := by unfold tabN; rw [h]; rfl
      have HT := Lib.hid ht
      clear hand ht
      have H := Lib.hid h
      clear h
      go_region
      all_goals go_wp2_with fail
      all_goals go_meet
      all_goals exact ⟨rfl, by rw [HT.out]; rfl, ((Below.refl _ _).alloc (Nat.le_refl _) _).drew, by rw [World.cell?_drew]; exact h0a _⟩
    · have hand0 : bits .and .u8 (c : Int) 3 = 1 := by rw [hand, h]; rfl
      have ht : tabN c = 2 := by unfold tabN; rw [h]; rfl
      have HT := Lib.hid ht
      clear hand ht
      have H := Lib.hid h
      clear h
      go_region
      all_goals go_wp2_with fail
      all_goals go_meet
      all_goals exact ⟨rfl, by rw [HT.out]; rfl, ((Below.refl _ _).alloc (Nat.le_refl _) _).drew, by rw [World.cell?_drew]; exact h0a _⟩
    · have hand0 : bits .and .u8 (c : Int) 3 = 2 := by rw [hand, h]; rfl
      have ht : tabN c = 4 := by unfold tabN; rw [h]; rfl
      have HT := Lib.hid ht
      clear hand ht
      have H := Lib.hid h
      clear h
      go_region
      all_goals go_wp2_with fail
      all_goals go_meet
      all_goals exact ⟨rfl, by rw [HT.out]; rfl, ((Below.refl _ _).alloc (Nat.le_refl _) _).drew, by rw [World.cell?_drew]; exact h0a _⟩
    · have hand0 : bits .and .u8 (c : Int) 3 = 3 := by rw [hand, h]; rfl
      have ht : tabN c = 0 := by unfold tabN; rw [h]; rfl
      have HT := Lib.hid ht
      clear hand ht
      have H := Lib.hid h
      clear h
      go_region
      all_goals go_wp2_with fail
      all_goals go_meet
      all_goals exact ⟨rfl, by rw [HT.out]; rfl, ((Below.refl _ _).alloc (Nat.le_refl _) _).drew, by rw [World.cell?_drew]; exact h0a _⟩
  case rest =>
    obtain ⟨rfl, rfl, hb1, h1⟩ := hcut
    go_upto_if 20 with fail
    go_cut [5, 6] (fun f s wx => ∃ fN sN : Nat, f = .int .i64 fN ∧ s = .int .i64 sN ∧ headOf c fN sN ∧ Below w.heap.size w wx)
    case first =>
      by_cases h3 : c % 4 = 3
      · have ht : (((tabN c : Nat) : Int) == 0) = true := by unfold tabN; rw [h3]; rfl
        go_wp2_with fail
        go_quiet (fail)
        go_wp2_with fail
        go_meet
        exact ⟨1, c / 4 + 4, rfl, by simp, .inr (.inr (.inr ⟨h3, rfl, rfl⟩)), below_drewN hb1 _⟩
      · have ht : (((tabN c : Nat) : Int) == 0) = false := by
          have h4 : c % 4 = 0 ∨ c % 4 = 1 ∨ c % 4 = 2 := by omega
          unfold tabN
          rcases h4 with h | h | h <;> rw [h] <;> rfl
        go_wp2_with fail
        go_meet
        refine ⟨0, tabN c, rfl, rfl, ?_, hb1⟩
        have h4 : c % 4 = 0 ∨ c % 4 = 1 ∨ c % 4 = 2 := by omega
        unfold tabN headOf
        rcases h4 with h | h | h <;> rw [h] <;> simp
    case rest =>
      obtain ⟨f, s, rfl, rfl, hh, hb2⟩ := hcut
      have HH := Lib.hid hh
      have ht := headOf_told hh
      have hf := headOf_f hh
      have hc2' := headOf_s hc2 hh
      obtain ⟨t, hT⟩ : ∃ t, t = toldN c := ⟨_, rfl⟩
      rw [← hT] at ht
      have htl : ¬ (t > 9 ∨ t > l.length) → takeL l = if (if t > 4 then valL ((l.take t).drop 1) else valL (l.take t) / 4) > 4611686018427387904 ∨ sizeN (if t > 4 then valL ((l.take t).drop 1) else valL (l.take t) / 4) ≠ t then none else some ((if t > 4 then valL ((l.take t).drop 1) else valL (l.take t) / 4), t) := by
        intro a1
        rw [hT, HC.out] at a1 ⊢
        simp only [takeL, if_neg hl, if_neg a1]
      have htn : (t > 9 ∨ t > l.length) → takeL l = none := by
        intro a1
        rw [hT, HC.out] at a1
        simp only [takeL, if_neg hl, if_pos a1]
      have HTL := Lib.hid htl
      have HTN := Lib.hid htn
      have HT := Lib.hid hT
      clear htl htn hT hh
      by_cases g8 : s > 8
      · have e1 : decide ((8 : Int) < (s : Int)) = true := by simp; omega
        go_wp2_with fail
        go_ret3
        exact ⟨by rw [HTN.out (.inl (by omega))]; rfl, hb2⟩
      have e1 : decide ((8 : Int) < (s : Int)) = false := by simp; omega
      by_cases gl : t > l.length
      · have e2 : decide (((l.length : Nat) : Int) < (f : Int) + (s : Int)) = true := by simp; omega
        go_wp2_with fail
        go_ret3
        exact ⟨by rw [HTN.out (.inr gl)]; rfl, hb2⟩
      have e2 : decide (((l.length : Nat) : Int) < (f : Int) + (s : Int)) = false := by simp; omega
      have htk := HTL.out (by omega)
      have HTK := Lib.hid htk
      clear htk
      go_wp2_with fail
      have seglen : ((l.take t).drop f).length = s := by simp; omega
      have SL := Lib.hid seglen
      clear seglen
      go_loop [7, 8] (fun n i => ∃ j V : Nat, j ≤ s ∧ i = .int .i64 ((j : Int) - 1) ∧ V = valL (((l.take t).drop f).drop j) ∧ n = .int .i64 (IntKind.i64.wrap V)) (fun _ i => (intOf i + 1).toNat)
      case atStart => exact ⟨s, 0, Nat.le_refl _, rfl, by rw [List.drop_of_length_le (by rw [SL.out]; exact Nat.le_refl _)]; rfl, rfl⟩
      case round =>
        obtain ⟨j, V, hj, rfl, hV, rfl⟩ := hrel
        have HV := Lib.hid hV
        cases j with
        | succ j =>
          have hVl : V < 72057594037927936 := by
            rw [hV]
            have := valL_lt (((l.take t).drop f).drop (j + 1)) (fun b hb => HBd.out b (List.mem_of_mem_take (List.mem_of_mem_drop (List.mem_of_mem_drop hb))))
            have h2 : (((l.take t).drop f).drop (j + 1)).length ≤ 7 := by rw [List.length_drop, SL.out]; omega
            have h3 : 256 ^ (((l.take t).drop f).drop (j + 1)).length ≤ 256 ^ 7 := Nat.pow_le_pow_right (by omega) h2
            have h4 : (256:Nat)^7 = 72057594037927936 := rfl
            omega
          clear hV
          have hij : ((j + 1 : Nat) : Int) - 1 = (j : Int) := by omega
          have hw : IntKind.i64.wrap (V : Int) = (V : Int) := IntWalk.i64_in _ (by omega)
          rw [hij, hw]
          obtain ⟨b, hbb⟩ : ∃ b, b = l.getD (f + j) 0 := ⟨_, rfl⟩
          have hb256 : b < 256 := HBd.out b (by rw [hbb]; simp [show f + j < l.length by omega])
          have hcj := HCell.out (f + j) (by omega)
          rw [add_at, ← hbb] at hcj
          have hcc : wc.cell? ⟨blk, off + (f + j), none⟩ = some (.int .u8 (b : Int)) := (hb2.cell (p := ⟨blk, off + (f + j), none⟩) (World.block_lt_of_cell? w _ hcj)).trans hcj
          have hor := or_shift64 hVl hb256
          have HBB := Lib.hid hbb
          have hx1 : ((f : Int) + (j : Int)) < (l.length : Int) := by omega
          have hx2 : ((f : Int) + (j : Int)).toNat = f + j := by omega
          clear hij hw hcj hbb
          go_wp2_with fail
          refine ⟨⟨j, b + 256 * V, by omega, rfl, ?_, congrArg _ ((wrap64_eq _).trans (congrArg IntKind.i64.wrap (by omega)))⟩, by simp [intOf]⟩
          rw [HV.out, HBB.out]
          exact seg_cons (by omega) (by omega)
        | zero =>
          rw [List.drop_zero] at hV
          have hVl : V < 18446744073709551616 := by
            rw [hV]
            have := valL_lt ((l.take t).drop f) (fun b hb => HBd.out b (List.mem_of_mem_take (List.mem_of_mem_drop hb)))
            have h3 : 256 ^ ((l.take t).drop f).length ≤ 256 ^ 8 := Nat.pow_le_pow_right (by omega) (by rw [SL.out]; omega)
            have h4 : (256:Nat)^8 = 18446744073709551616 := rfl
            omega
          have hij : ((0 : Nat) : Int) - 1 = -1 := rfl
          rw [hij]
          rcases hf with ⟨rfl, hs4⟩ | ⟨rfl, hs4⟩
          · have hV4 : V < 4294967296 := by
              rw [hV]
              have := valL_lt ((l.take t).drop 0) (fun b hb => HBd.out b (List.mem_of_mem_take (List.mem_of_mem_drop hb)))
              have h3 : 256 ^ ((l.take t).drop 0).length ≤ 256 ^ 4 := Nat.pow_le_pow_right (by omega) (by rw [SL.out]; omega)
              have h4 : (256:Nat)^4 = 4294967296 := rfl
              omega
            clear hV
            have hw : IntKind.i64.wrap (V : Int) = (V : Int) := IntWalk.i64_in _ (by omega)
            rw [hw]
            clear hw
            obtain ⟨q, hq⟩ : ∃ q, q = V / 4 := ⟨_, rfl⟩
            have hqi : (V : Int) / 4 = (q : Int) := by omega
            have hq4 : q < 1073741824 := by omega
            have HQ := Lib.hid hq
            clear hq
            obtain rfl : s = t := by omega
            have htk2 : takeL l = if q > 4611686018427387904 ∨ sizeN q ≠ s then none else some (q, s) := by
              rw [HTK.out, if_neg (show ¬ s > 4 by omega), HQ.out, HV.out, List.drop_zero, List.drop_zero]
            have hiff : numL q = l.take s ↔ sizeN q = s := by
              have hT := HT.out
              rw [HC.out] at hT
              constructor
              · intro h
                have := congrArg List.length h
                rw [numL_size, List.length_take] at this
                omega
              · intro h
                have := numL_of (u := q) hl HBd.out (by omega) (by rw [← hT, if_neg (show ¬ s > 4 by omega), HQ.out, HV.out, List.drop_zero, List.drop_zero]) (by omega)
                rw [this, ← hT]
            have HTK2 := Lib.hid htk2
            have HIFF := Lib.hid hiff
            clear htk2 hiff
            go_wp2_with fail
            clear hqi
            have KS : ∀ w', Below w.heap.size w w' → (convert 31 9 (.slice (some ⟨blk, off, none⟩) (s) cap)).run Try.prog w' = .ok (.string (strN (l.take (s)))) w' := by
              intro w' hb
              have hrd := RdB.below (rd_cut (i := 0) hcap HCell.out (Nat.zero_le (s)) (by omega)) hb
              simp only [Nat.add_zero, Nat.sub_zero, List.drop_zero] at hrd
              exact run_str hrd (fun b h => HBd.out b (List.mem_of_mem_take h))
            have hheld : heldN (q : Int) = q := by unfold heldN; omega
            have HD := Lib.hid hheld
            have hKS := Lib.hid KS
            clear KS hheld
            have g1 : decide ((q : Int) < 0) = false := by simp
            have g2 : decide ((4611686018427387904 : Int) < (q : Int)) = false := by simp; omega
            have hsc : (s : Int) ≤ (cap : Int) := by omega
            have hws : IntKind.i64.wrap (s : Int) = (s : Int) := IntWalk.i64_in _ (by omega)
            have HWS := Lib.hid hws
            have HSC := Lib.hid hsc
            clear hws hsc
            have hlt1 := numL_lt q
            have hlt2 : ∀ b ∈ l.take (s), b < 256 := fun b h => HBd.out b (List.mem_of_mem_take h)
            by_cases hq : numL q = l.take (s)
            · have hst : ((strN (numL q)).toList == (strN (l.take (s))).toList) = true := by rw [hq]; simp
              have HST := Lib.hid hst
              have HQL := Lib.hid hq
              clear hst hq hlt1 hlt2
              refine wp_region_plan_lit (L := Later) 79 [.pure, .pure, .pure, .pure, .pure, .pure, .pure, .pure, .any (fun w v => RdB w v (numL q)), .pin (.string (strN (numL q))), .pure, .pure, .pure, .pure, .pure, .pin (.string (strN (l.take (s)))), .pure, .pure] (by kernel_rfl) (by kernel_rfl) rfl (fun w => Below.refl _ w) Later.tr ⟨fun w w' v hL hR => RdB.below hR hL, trivial⟩ ?_
              iterate 8
                first
                | (refine wm_skip (by rfl) (fun K hK => ?_))
                | (refine wm_move (by rfl) (.inl rfl) (fun K hK => ?_))
                | (refine wm_run (by rfl) (fun K hK => ?_)
                   apply Exists.intro
                   apply And.intro
                   · intro w hL
                     simp [go_sem, g1, g2, HSC.out, HWS.out, HST.out]
                     rfl)
                simp only [Act.put, Act.eval, List.setIfInBounds_toArray, List.set_cons_succ, List.set_cons_zero]
                refine hK _ ?_
                clear hK K
              refine wm_any (fun K hK => ⟨fun w' hL hk => ?_, fun v65 => ?_⟩)
              · go_wp2_with (first | (go_at_call 55; refine (ref_Num _ _).mono ?_; rw [HD.out]; rintro e w2 ⟨v2, rfl, ho3, hb3, hs3⟩) | fail)
                exact qr_any rfl rfl rfl hb3 ho3.reads
              simp only [Act.put, Act.eval, List.setIfInBounds_toArray, List.set_cons_succ, List.set_cons_zero]
              refine hK _ ?_
              clear hK K
              refine wm_pin (fun K hK => ⟨fun w' hL hk => ?_, ?_⟩)
              · have h65 : RdB w' v65 (numL q) := hk.get 65 8 (by kernel_rfl) rfl
                have hstr := run_str h65 (numL_lt q)
                go_wp2_with fail
                exact qr_pin rfl rfl rfl (Below.refl _ _)
              simp only [Act.put, Act.eval, List.setIfInBounds_toArray, List.set_cons_succ, List.set_cons_zero]
              refine hK _ ?_
              clear hK K
              iterate 5
                first
                | (refine wm_skip (by rfl) (fun K hK => ?_))
                | (refine wm_move (by rfl) (.inl rfl) (fun K hK => ?_))
                | (refine wm_run (by rfl) (fun K hK => ?_)
                   apply Exists.intro
                   apply And.intro
                   · intro w hL
                     simp [go_sem, g1, g2, HSC.out, HWS.out, HST.out]
                     rfl)
                simp only [Act.put, Act.eval, List.setIfInBounds_toArray, List.set_cons_succ, List.set_cons_zero]
                refine hK _ ?_
                clear hK K
              refine wm_pin (fun K hK => ⟨fun w' hL hk => ?_, ?_⟩)
              · have hstr := hKS.out w' (hb2.drew.trans (hL.mono hb2.drew.size))
                go_wp2_with fail
                exact qr_pin rfl rfl rfl (Below.refl _ _)
              simp only [Act.put, Act.eval, List.setIfInBounds_toArray, List.set_cons_succ, List.set_cons_zero]
              refine hK _ ?_
              clear hK K
              iterate 2
                first
                | (refine wm_skip (by rfl) (fun K hK => ?_))
                | (refine wm_move (by rfl) (.inl rfl) (fun K hK => ?_))
                | (refine wm_run (by rfl) (fun K hK => ?_)
                   apply Exists.intro
                   apply And.intro
                   · intro w hL
                     simp [go_sem, g1, g2, HSC.out, HWS.out, HST.out]
                     rfl)
                simp only [Act.put, Act.eval, List.setIfInBounds_toArray, List.set_cons_succ, List.set_cons_zero]
                refine hK _ ?_
                clear hK K
              refine wm_end (fun w' hL hk => ?_)
              clear hk
              go_wp2_with fail
              go_ret3
              refine ⟨?_, hb2.drew.trans (hL.mono hb2.drew.size)⟩
              rw [HTK2.out, if_neg (by have := HIFF.out.1 HQL.out; omega)]
              first | rfl | simp [takeV]
            · have hst : ((strN (numL q)).toList == (strN (l.take (s))).toList) = false := by rw [beq_eq_false_iff_ne]; exact fun h => hq ((strN_eq hlt1 hlt2).1 h)
              have HST := Lib.hid hst
              have HQL := Lib.hid hq
              clear hst hq hlt1 hlt2
              refine wp_region_plan_lit (L := Later) 79 [.pure, .pure, .pure, .pure, .pure, .pure, .pure, .pure, .any (fun w v => RdB w v (numL q)), .pin (.string (strN (numL q))), .pure, .pure, .pure, .pure, .pure, .pin (.string (strN (l.take (s)))), .pure, .pure] (by kernel_rfl) (by kernel_rfl) rfl (fun w => Below.refl _ w) Later.tr ⟨fun w w' v hL hR => RdB.below hR hL, trivial⟩ ?_
              iterate 8
                first
                | (refine wm_skip (by rfl) (fun K hK => ?_))
                | (refine wm_move (by rfl) (.inl rfl) (fun K hK => ?_))
                | (refine wm_run (by rfl) (fun K hK => ?_)
                   apply Exists.intro
                   apply And.intro
                   · intro w hL
                     simp [go_sem, g1, g2, HSC.out, HWS.out, HST.out]
                     rfl)
                simp only [Act.put, Act.eval, List.setIfInBounds_toArray, List.set_cons_succ, List.set_cons_zero]
                refine hK _ ?_
                clear hK K
              refine wm_any (fun K hK => ⟨fun w' hL hk => ?_, fun v65 => ?_⟩)
              · go_wp2_with (first | (go_at_call 55; refine (ref_Num _ _).mono ?_; rw [HD.out]; rintro e w2 ⟨v2, rfl, ho3, hb3, hs3⟩) | fail)
                exact qr_any rfl rfl rfl hb3 ho3.reads
              simp only [Act.put, Act.eval, List.setIfInBounds_toArray, List.set_cons_succ, List.set_cons_zero]
              refine hK _ ?_
              clear hK K
              refine wm_pin (fun K hK => ⟨fun w' hL hk => ?_, ?_⟩)
              · have h65 : RdB w' v65 (numL q) := hk.get 65 8 (by kernel_rfl) rfl
                have hstr := run_str h65 (numL_lt q)
                go_wp2_with fail
                exact qr_pin rfl rfl rfl (Below.refl _ _)
              simp only [Act.put, Act.eval, List.setIfInBounds_toArray, List.set_cons_succ, List.set_cons_zero]
              refine hK _ ?_
              clear hK K
              iterate 5
                first
                | (refine wm_skip (by rfl) (fun K hK => ?_))
                | (refine wm_move (by rfl) (.inl rfl) (fun K hK => ?_))
                | (refine wm_run (by rfl) (fun K hK => ?_)
                   apply Exists.intro
                   apply And.intro
                   · intro w hL
                     simp [go_sem, g1, g2, HSC.out, HWS.out, HST.out]
                     rfl)
                simp only [Act.put, Act.eval, List.setIfInBounds_toArray, List.set_cons_succ, List.set_cons_zero]
                refine hK _ ?_
                clear hK K
              refine wm_pin (fun K hK => ⟨fun w' hL hk => ?_, ?_⟩)
              · have hstr := hKS.out w' (hb2.drew.trans (hL.mono hb2.drew.size))
                go_wp2_with fail
                exact qr_pin rfl rfl rfl (Below.refl _ _)
              simp only [Act.put, Act.eval, List.setIfInBounds_toArray, List.set_cons_succ, List.set_cons_zero]
              refine hK _ ?_
              clear hK K
              iterate 2
                first
                | (refine wm_skip (by rfl) (fun K hK => ?_))
                | (refine wm_move (by rfl) (.inl rfl) (fun K hK => ?_))
                | (refine wm_run (by rfl) (fun K hK => ?_)
                   apply Exists.intro
                   apply And.intro
                   · intro w hL
                     simp [go_sem, g1, g2, HSC.out, HWS.out, HST.out]
                     rfl)
                simp only [Act.put, Act.eval, List.setIfInBounds_toArray, List.set_cons_succ, List.set_cons_zero]
                refine hK _ ?_
                clear hK K
              refine wm_end (fun w' hL hk => ?_)
              clear hk
              go_wp2_with fail
              go_ret3
              refine ⟨?_, hb2.drew.trans (hL.mono hb2.drew.size)⟩
              rw [HTK2.out, if_pos (.inr fun h => HQL.out (HIFF.out.2 h))]
              rfl
          · obtain rfl : t = 1 + s := by omega
            clear hV
            have htk2 : takeL l = if V > 4611686018427387904 ∨ sizeN V ≠ 1 + s then none else some (V, 1 + s) := by
              rw [HTK.out, if_pos (show 1 + s > 4 by omega), HV.out, List.drop_zero]
            have hiff : numL V = l.take (1 + s) ↔ sizeN V = 1 + s := by
              have hT := HT.out
              rw [HC.out] at hT
              constructor
              · intro h
                have := congrArg List.length h
                rw [numL_size, List.length_take] at this
                omega
              · intro h
                have := numL_of (u := V) hl HBd.out (by omega) (by rw [← hT, if_pos (show 1 + s > 4 by omega), HV.out, List.drop_zero]) (by omega)
                rw [this, ← hT]
            have HTK2 := Lib.hid htk2
            have HIFF := Lib.hid hiff
            clear htk2 hiff
            by_cases hbig : V ≥ 9223372036854775808
            · obtain ⟨M, hM⟩ : ∃ M : Int, M = IntKind.i64.wrap (V : Int) := ⟨_, rfl⟩
              rw [← hM]
              have hM0 : M < 0 := by rw [hM, IntKind.wrap_i64]; omega
              have g1 : decide (M < 0) = true := by simp; exact hM0
              clear hM hM0
              go_wp2_with fail
              refine wp_region_plan_lit (L := Later) 79 [.pure, .pure, .pure, .pure, .pure, .pure, .pure, .pure, .pure, .pure, .pure, .pure, .pure, .pure, .pure, .pure, .pure, .pure] (by kernel_rfl) (by kernel_rfl) rfl (fun w => Below.refl _ w) Later.tr trivial ?_
              iterate 18
                first
                | (refine wm_skip (by rfl) (fun K hK => ?_))
                | (refine wm_move (by rfl) (.inl rfl) (fun K hK => ?_))
                | (refine wm_run (by rfl) (fun K hK => ?_)
                   apply Exists.intro
                   apply And.intro
                   · intro w hL
                     simp [go_sem, g1]
                     rfl)
                simp only [Act.put, Act.eval, List.setIfInBounds_toArray, List.set_cons_succ, List.set_cons_zero]
                refine hK _ ?_
                clear hK K
              refine wm_end (fun w' hL hk => ?_)
              clear hk
              go_wp2_with fail
              go_ret3
              exact ⟨by rw [HTK2.out, if_pos (.inl (by omega))]; rfl, hb2.drew.trans (hL.mono hb2.drew.size)⟩
            have hw : IntKind.i64.wrap (V : Int) = (V : Int) := IntWalk.i64_in _ (by omega)
            rw [hw]
            clear hw
            by_cases hmost : V > 4611686018427387904
            · have g1 : decide ((V : Int) < 0) = false := by simp
              have g2 : decide ((4611686018427387904 : Int) < (V : Int)) = true := by simp; omega
              go_wp2_with fail
              refine wp_region_plan_lit (L := Later) 79 [.pure, .pure, .pure, .pure, .pure, .pure, .pure, .pure, .pure, .pure, .pure, .pure, .pure, .pure, .pure, .pure, .pure, .pure] (by kernel_rfl) (by kernel_rfl) rfl (fun w => Below.refl _ w) Later.tr trivial ?_
              iterate 18
                first
                | (refine wm_skip (by rfl) (fun K hK => ?_))
                | (refine wm_move (by rfl) (.inl rfl) (fun K hK => ?_))
                | (refine wm_run (by rfl) (fun K hK => ?_)
                   apply Exists.intro
                   apply And.intro
                   · intro w hL
                     simp [go_sem, g1, g2]
                     rfl)
                simp only [Act.put, Act.eval, List.setIfInBounds_toArray, List.set_cons_succ, List.set_cons_zero]
                refine hK _ ?_
                clear hK K
              refine wm_end (fun w' hL hk => ?_)
              clear hk
              go_wp2_with fail
              go_ret3
              exact ⟨by rw [HTK2.out, if_pos (.inl (by omega))]; rfl, hb2.drew.trans (hL.mono hb2.drew.size)⟩
            go_wp2_with fail
            have KS : ∀ w', Below w.heap.size w w' → (convert 31 9 (.slice (some ⟨blk, off, none⟩) (1 + s) cap)).run Try.prog w' = .ok (.string (strN (l.take (1 + s)))) w' := by
              intro w' hb
              have hrd := RdB.below (rd_cut (i := 0) hcap HCell.out (Nat.zero_le (1 + s)) (by omega)) hb
              simp only [Nat.add_zero, Nat.sub_zero, List.drop_zero] at hrd
              exact run_str hrd (fun b h => HBd.out b (List.mem_of_mem_take h))
            have hheld : heldN (V : Int) = V := by unfold heldN; omega
            have HD := Lib.hid hheld
            have hKS := Lib.hid KS
            clear KS hheld
            have g1 : decide ((V : Int) < 0) = false := by simp
            have g2 : decide ((4611686018427387904 : Int) < (V : Int)) = false := by simp; omega
            have hsc : (1 : Int) + (s : Int) ≤ (cap : Int) := by omega
            have hws : IntKind.i64.wrap ((1 : Int) + (s : Int)) = (1 : Int) + (s : Int) := IntWalk.i64_in _ (by omega)
            have hws2 : ((1 : Int) + (s : Int)).toNat = 1 + s := by omega
            have HWS := Lib.hid hws
            have HWS2 := Lib.hid hws2
            have HSC := Lib.hid hsc
            clear hws hsc hws2
            have hlt1 := numL_lt V
            have hlt2 : ∀ b ∈ l.take (1 + s), b < 256 := fun b h => HBd.out b (List.mem_of_mem_take h)
            by_cases hq : numL V = l.take (1 + s)
            · have hst : ((strN (numL V)).toList == (strN (l.take (1 + s))).toList) = true := by rw [hq]; simp
              have HST := Lib.hid hst
              have HQL := Lib.hid hq
              clear hst hq hlt1 hlt2
              refine wp_region_plan_lit (L := Later) 79 [.pure, .pure, .pure, .pure, .pure, .pure, .pure, .pure, .any (fun w v => RdB w v (numL V)), .pin (.string (strN (numL V))), .pure, .pure, .pure, .pure, .pure, .pin (.string (strN (l.take (1 + s)))), .pure, .pure] (by kernel_rfl) (by kernel_rfl) rfl (fun w => Below.refl _ w) Later.tr ⟨fun w w' v hL hR => RdB.below hR hL, trivial⟩ ?_
              iterate 8
                first
                | (refine wm_skip (by rfl) (fun K hK => ?_))
                | (refine wm_move (by rfl) (.inl rfl) (fun K hK => ?_))
                | (refine wm_run (by rfl) (fun K hK => ?_)
                   apply Exists.intro
                   apply And.intro
                   · intro w hL
                     simp [go_sem, g1, g2, HSC.out, HWS.out, HWS2.out, HST.out]
                     rfl)
                simp only [Act.put, Act.eval, List.setIfInBounds_toArray, List.set_cons_succ, List.set_cons_zero]
                refine hK _ ?_
                clear hK K
              refine wm_any (fun K hK => ⟨fun w' hL hk => ?_, fun v65 => ?_⟩)
              · go_wp2_with (first | (go_at_call 55; refine (ref_Num _ _).mono ?_; rw [HD.out]; rintro e w2 ⟨v2, rfl, ho3, hb3, hs3⟩) | fail)
                exact qr_any rfl rfl rfl hb3 ho3.reads
              simp only [Act.put, Act.eval, List.setIfInBounds_toArray, List.set_cons_succ, List.set_cons_zero]
              refine hK _ ?_
              clear hK K
              refine wm_pin (fun K hK => ⟨fun w' hL hk => ?_, ?_⟩)
              · have h65 : RdB w' v65 (numL V) := hk.get 65 8 (by kernel_rfl) rfl
                have hstr := run_str h65 (numL_lt V)
                go_wp2_with fail
                exact qr_pin rfl rfl rfl (Below.refl _ _)
              simp only [Act.put, Act.eval, List.setIfInBounds_toArray, List.set_cons_succ, List.set_cons_zero]
              refine hK _ ?_
              clear hK K
              iterate 5
                first
                | (refine wm_skip (by rfl) (fun K hK => ?_))
                | (refine wm_move (by rfl) (.inl rfl) (fun K hK => ?_))
                | (refine wm_run (by rfl) (fun K hK => ?_)
                   apply Exists.intro
                   apply And.intro
                   · intro w hL
                     simp [go_sem, g1, g2, HSC.out, HWS.out, HWS2.out, HST.out]
                     rfl)
                simp only [Act.put, Act.eval, List.setIfInBounds_toArray, List.set_cons_succ, List.set_cons_zero]
                refine hK _ ?_
                clear hK K
              refine wm_pin (fun K hK => ⟨fun w' hL hk => ?_, ?_⟩)
              · have hstr := hKS.out w' (hb2.drew.trans (hL.mono hb2.drew.size))
                go_wp2_with fail
                exact qr_pin rfl rfl rfl (Below.refl _ _)
              simp only [Act.put, Act.eval, List.setIfInBounds_toArray, List.set_cons_succ, List.set_cons_zero]
              refine hK _ ?_
              clear hK K
              iterate 2
                first
                | (refine wm_skip (by rfl) (fun K hK => ?_))
                | (refine wm_move (by rfl) (.inl rfl) (fun K hK => ?_))
                | (refine wm_run (by rfl) (fun K hK => ?_)
                   apply Exists.intro
                   apply And.intro
                   · intro w hL
                     simp [go_sem, g1, g2, HSC.out, HWS.out, HWS2.out, HST.out]
                     rfl)
                simp only [Act.put, Act.eval, List.setIfInBounds_toArray, List.set_cons_succ, List.set_cons_zero]
                refine hK _ ?_
                clear hK K
              refine wm_end (fun w' hL hk => ?_)
              clear hk
              go_wp2_with fail
              go_ret3
              refine ⟨?_, hb2.drew.trans (hL.mono hb2.drew.size)⟩
              rw [HTK2.out, if_neg (by have := HIFF.out.1 HQL.out; omega)]
              first | rfl | simp [takeV]
            · have hst : ((strN (numL V)).toList == (strN (l.take (1 + s))).toList) = false := by rw [beq_eq_false_iff_ne]; exact fun h => hq ((strN_eq hlt1 hlt2).1 h)
              have HST := Lib.hid hst
              have HQL := Lib.hid hq
              clear hst hq hlt1 hlt2
              refine wp_region_plan_lit (L := Later) 79 [.pure, .pure, .pure, .pure, .pure, .pure, .pure, .pure, .any (fun w v => RdB w v (numL V)), .pin (.string (strN (numL V))), .pure, .pure, .pure, .pure, .pure, .pin (.string (strN (l.take (1 + s)))), .pure, .pure] (by kernel_rfl) (by kernel_rfl) rfl (fun w => Below.refl _ w) Later.tr ⟨fun w w' v hL hR => RdB.below hR hL, trivial⟩ ?_
              iterate 8
                first
                | (refine wm_skip (by rfl) (fun K hK => ?_))
                | (refine wm_move (by rfl) (.inl rfl) (fun K hK => ?_))
                | (refine wm_run (by rfl) (fun K hK => ?_)
                   apply Exists.intro
                   apply And.intro
                   · intro w hL
                     simp [go_sem, g1, g2, HSC.out, HWS.out, HWS2.out, HST.out]
                     rfl)
                simp only [Act.put, Act.eval, List.setIfInBounds_toArray, List.set_cons_succ, List.set_cons_zero]
                refine hK _ ?_
                clear hK K
              refine wm_any (fun K hK => ⟨fun w' hL hk => ?_, fun v65 => ?_⟩)
              · go_wp2_with (first | (go_at_call 55; refine (ref_Num _ _).mono ?_; rw [HD.out]; rintro e w2 ⟨v2, rfl, ho3, hb3, hs3⟩) | fail)
                exact qr_any rfl rfl rfl hb3 ho3.reads
              simp only [Act.put, Act.eval, List.setIfInBounds_toArray, List.set_cons_succ, List.set_cons_zero]
              refine hK _ ?_
              clear hK K
              refine wm_pin (fun K hK => ⟨fun w' hL hk => ?_, ?_⟩)
              · have h65 : RdB w' v65 (numL V) := hk.get 65 8 (by kernel_rfl) rfl
                have hstr := run_str h65 (numL_lt V)
                go_wp2_with fail
                exact qr_pin rfl rfl rfl (Below.refl _ _)
              simp only [Act.put, Act.eval, List.setIfInBounds_toArray, List.set_cons_succ, List.set_cons_zero]
              refine hK _ ?_
              clear hK K
              iterate 5
                first
                | (refine wm_skip (by rfl) (fun K hK => ?_))
                | (refine wm_move (by rfl) (.inl rfl) (fun K hK => ?_))
                | (refine wm_run (by rfl) (fun K hK => ?_)
                   apply Exists.intro
                   apply And.intro
                   · intro w hL
                     simp [go_sem, g1, g2, HSC.out, HWS.out, HWS2.out, HST.out]
                     rfl)
                simp only [Act.put, Act.eval, List.setIfInBounds_toArray, List.set_cons_succ, List.set_cons_zero]
                refine hK _ ?_
                clear hK K
              refine wm_pin (fun K hK => ⟨fun w' hL hk => ?_, ?_⟩)
              · have hstr := hKS.out w' (hb2.drew.trans (hL.mono hb2.drew.size))
                go_wp2_with fail
                exact qr_pin rfl rfl rfl (Below.refl _ _)
              simp only [Act.put, Act.eval, List.setIfInBounds_toArray, List.set_cons_succ, List.set_cons_zero]
              refine hK _ ?_
              clear hK K
              iterate 2
                first
                | (refine wm_skip (by rfl) (fun K hK => ?_))
                | (refine wm_move (by rfl) (.inl rfl) (fun K hK => ?_))
                | (refine wm_run (by rfl) (fun K hK => ?_)
                   apply Exists.intro
                   apply And.intro
                   · intro w hL
                     simp [go_sem, g1, g2, HSC.out, HWS.out, HWS2.out, HST.out]
                     rfl)
                simp only [Act.put, Act.eval, List.setIfInBounds_toArray, List.set_cons_succ, List.set_cons_zero]
                refine hK _ ?_
                clear hK K
              refine wm_end (fun w' hL hk => ?_)
              clear hk
              go_wp2_with fail
              go_ret3
              refine ⟨?_, hb2.drew.trans (hL.mono hb2.drew.size)⟩
              rw [HTK2.out, if_pos (.inr fun h => HQL.out (HIFF.out.2 h))]
              rfl

theorem ref_Take (v : Value) (l : List Nat) (w : World) (h : RdB w v l) (hb : ∀ b ∈ l, b < 256) :
    Calls Try.prog 64 #[v] w fun e w' => e = takeV (takeL l) ∧ Below w.heap.size w w' := by
  by_cases hl : l = []
  · subst hl; exact ref_Take_0 v w h
  · exact ref_Take_x v l w h hl hb

end Go.Proofs.Ytbndegkgpoemnaa
