/-
  Joined texts.
-/
import Derived.Deep.QuietTactic
import Derived.BigQuiet
import Derived.Deep.RegionHeld3
import Derived.Deep.DeepCutAuto
import Derived.Deep.RegionWith
import Derived.Laws.AppendOwnNone
import Derived.Deep.Matrix
import Derived.RangeFuncNested
import Derived.RangeFuncBound
import Derived.RangeFuncCalls
import Derived.RangeFuncLeaves
import Derived.Shelf.Abstract
import Derived.Shelf.RegionOpen
import Derived.OwnWalkIn
import Derived.TacticsInMore
import Derived.LoopNIn
import Derived.LoopIn
import Derived.Maps.OwnIn
import Derived.Test.YteioacpfphigjaaGreatDoorRows
import Derived.Test.YteioacpfphigjaaGreatDoorMgh

section
namespace Go.Proofs.YteioacpfphigjaaGreatDoor
open Go.RowKit
set_option linter.unusedVariables false
set_option linter.unusedSimpArgs false

/-- Bytes shifted and one more, whatever stands at the top. -/
theorem or_shift {V b : Nat} (hV : V < 72057594037927936) (hb : b < 256) :
    bits .or .i64 (IntKind.i64.wrap ((V : Int) * 256)) (b : Int) = IntKind.i64.wrap ((b + 256 * V : Nat) : Int) := by
  have h1 : (BitVec.ofInt 64 (IntKind.i64.wrap ((V : Int) * 256))).toNat = V * 256 := by
    rw [BitVec.toNat_ofInt, IntKind.wrap_i64]; omega
  have h2 : (BitVec.ofInt 64 (b : Int)).toNat = b := by
    rw [BitVec.ofInt_natCast, BitVec.toNat_ofNat]; exact Nat.mod_eq_of_lt (by omega)
  show IntKind.i64.wrap ((BitVec.ofInt 64 (IntKind.i64.wrap ((V : Int) * 256)) ||| BitVec.ofInt 64 (b : Int)).toNat : Int) = _
  have h3 : V * 256 ||| b = b + 256 * V := by
    have := Nat.two_pow_add_eq_or_of_lt (i := 8) (b := b) (by omega) V
    have e : 2 ^ 8 * V = V * 256 := by omega
    rw [e] at this; omega
  rw [BitVec.toNat_or, h1, h2, h3]

theorem wrap64_eq (x : Int) : wrap64 x = IntKind.i64.wrap x := by
  rw [IntKind.wrap_i64]
  unfold wrap64
  exact Eq.refl _

theorem or_shift64 {V b : Nat} (hV : V < 72057594037927936) (hb : b < 256) :
    bits .or .i64 (wrap64 ((V : Int) * 256)) (b : Int) = IntKind.i64.wrap ((b + 256 * V : Nat) : Int) := by
  rw [← or_shift hV hb, wrap64_eq]

set_option maxHeartbeats 1000000 in
theorem ref_Take_0 (v : Value) (w : World) (h : RdB w v []) :
    Calls Tryz.prog 185 #[v] w fun e w' => e = takeV none ∧ Below w.heap.size w w' := by
  obtain ⟨ao, cap, rfl⟩ := h.lenOf
  simp only [List.length_nil] at *
  go_enter Tryz.func185, Tryz.ntmps185
  go_wp2
  go_ret3
  exact ⟨rfl, Below.refl _ _⟩

def tabN (c : Nat) : Nat := if c % 4 = 0 then 1 else if c % 4 = 1 then 2 else if c % 4 = 2 then 4 else 0

/-- Where the bytes of a number begin, and how many they are, by the first one. -/
def headOf (c f s : Nat) : Prop := (c % 4 = 0 ∧ f = 0 ∧ s = 1) ∨ (c % 4 = 1 ∧ f = 0 ∧ s = 2) ∨ (c % 4 = 2 ∧ f = 0 ∧ s = 4) ∨ (c % 4 = 3 ∧ f = 1 ∧ s = c / 4 + 4)

theorem headOf_told {c f s : Nat} (h : headOf c f s) : f + s = toldN c := by
  unfold headOf at h; unfold toldN
  rcases h with ⟨h, rfl, rfl⟩ | ⟨h, rfl, rfl⟩ | ⟨h, rfl, rfl⟩ | ⟨h, rfl, rfl⟩
  · rw [if_pos h]
  · rw [if_neg (by omega), if_pos h]
  · rw [if_neg (by omega), if_neg (by omega), if_pos h]
  · rw [if_neg (by omega), if_neg (by omega), if_neg (by omega)]; omega
theorem headOf_f {c f s : Nat} (h : headOf c f s) : (f = 0 ∧ s ≤ 4) ∨ (f = 1 ∧ 4 ≤ s) := by
  unfold headOf at h; omega
theorem headOf_s {c f s : Nat} (hc : c < 256) (h : headOf c f s) : 1 ≤ s ∧ s ≤ 67 := by
  unfold headOf at h; omega

theorem seg_cons {l : List Nat} {t f j : Nat} (h1 : f + j < t) (h2 : t ≤ l.length) : l.getD (f + j) 0 + 256 * valL (((l.take t).drop f).drop (j + 1)) = valL (((l.take t).drop f).drop j) := by
  have hl : j < ((l.take t).drop f).length := by simp; omega
  rw [List.drop_eq_getElem_cons hl, valL]
  congr 1
  simp [show f + j < l.length by omega]

theorem litOld {w : World} {a : Addr} {v : Value} {o : Obj} (ha : a.block < w.heap.size) (h : w.cell? a = some v) : (w.alloc o).drew.cell? a = some v := by
  rw [World.cell?_drew, World.cell?_alloc_lt _ _ _ ha]; exact h

set_option maxHeartbeats 2000000 in
theorem ref_Take_x (v : Value) (l : List Nat) (w : World) (h : RdB w v l) (hl : l ≠ []) (hb : ∀ b ∈ l, b < 256) :
    Calls Tryz.prog 185 #[v] w fun e w' => e = takeV (takeL l) ∧ Below w.heap.size w w' := by
  rcases h with ⟨-, h⟩ | ⟨⟨blk, off, spot⟩, cap, rfl, hcap, hcell⟩
  · exact absurd h hl
  have hpos : 0 < l.length := List.length_pos_iff.2 hl
  have h0 := hcell 0 hpos
  obtain ⟨c, hc⟩ : ∃ c, c = l.getD 0 0 := ⟨_, rfl⟩
  have hc2 : c < 256 := hb c (by rw [hc]; simp [hpos])
  rw [← hc] at h0
  have hspot : spot = none := by simpa [Addr.add] using World.cell?_spot h0
  subst hspot
  have hadd : (⟨blk, off, none⟩ : Addr).add 0 = ⟨blk, off, none⟩ := by simp [Addr.add]
  rw [hadd] at h0
  have hne : (l.length == 0) = false := by simp; omega
  have hand : bits .and .u8 (c : Int) 3 = ((c % 4 : Nat) : Int) := by
    have := u8_and_nat c 3 hc2 (by omega)
    rw [show c &&& 3 = c % 4 from Nat.and_two_pow_sub_one_eq_mod c 2] at this
    exact this
  have HC := Lib.hid hc
  have HCell := Lib.hid hcell
  have HBd := Lib.hid hb
  clear hc hcell hb
  go_enter Tryz.func185, Tryz.ntmps185
  go_upto_region 3 with fail
  go_cut [5, 6] (fun f s wx => f = .int .i64 0 ∧ s = .int .i64 (tabN c : Nat) ∧ Below w.heap.size w wx ∧ wx.cell? ⟨blk, off, none⟩ = some (.int .u8 (c : Int)))
  case first =>
    have h4 : c % 4 = 0 ∨ c % 4 = 1 ∨ c % 4 = 2 ∨ c % 4 = 3 := by omega
    have h0a : ∀ o, (w.alloc o).cell? ⟨blk, off, none⟩ = some (.int .u8 (c : Int)) := fun o => by rw [World.cell?_alloc_lt _ _ _ (World.block_lt_of_cell? w _ h0)]; exact h0
    rcases h4 with h | h | h | h
    · have hand0 : bits .and .u8 (c : Int) 3 = 0 := by rw [hand, h]; rfl
      have ht : tabN c = 1 := by unfold tabN; rw [h]; rfl
      have HT := Lib.hid ht
      clear hand ht
      have H := Lib.hid h
      clear h
      go_region
      all_goals go_wp2_with fail
      all_goals go_meet
      all_goals exact ⟨rfl, by rw [HT.out]; rfl, ((Below.refl _ _).alloc (Nat.le_refl _) _).drew, by rw [World.cell?_drew]; exact h0a _⟩
    · have hand0 : bits .and .u8 (c : Int) 3 = 1 := by rw [hand, h]; rfl
      have ht : tabN c = 2 := by unfold tabN; rw [h]; rfl
      have HT := Lib.hid ht
      clear hand ht
      have H := Lib.hid h
      clear h
      go_region
      all_goals go_wp2_with fail
      all_goals go_meet
      all_goals exact ⟨rfl, by rw [HT.out]; rfl, ((Below.refl _ _).alloc (Nat.le_refl _) _).drew, by rw [World.cell?_drew]; exact h0a _⟩
    · have hand0 : bits .and .u8 (c : Int) 3 = 2 := by rw [hand, h]; rfl
      have ht : tabN c = 4 := by unfold tabN; rw [h]; rfl
      have HT := Lib.hid ht
      clear hand ht
      have H := Lib.hid h
      clear h
      go_region
      all_goals go_wp2_with fail
      all_goals go_meet
      all_goals exact ⟨rfl, by rw [HT.out]; rfl, ((Below.refl _ _).alloc (Nat.le_refl _) _).drew, by rw [World.cell?_drew]; exact h0a _⟩
    · have hand0 : bits .and .u8 (c : Int) 3 = 3 := by rw [hand, h]; rfl
      have ht : tabN c = 0 := by unfold tabN; rw [h]; rfl
      have HT := Lib.hid ht
      clear hand ht
      have H := Lib.hid h
      clear h
      go_region
      all_goals go_wp2_with fail
      all_goals go_meet
      all_goals exact ⟨rfl, by rw [HT.out]; rfl, ((Below.refl _ _).alloc (Nat.le_refl _) _).drew, by rw [World.cell?_drew]; exact h0a _⟩
  case rest =>
    obtain ⟨rfl, rfl, hb1, h1⟩ := hcut
    go_upto_if 20 with fail
    go_cut [5, 6] (fun f s wx => ∃ fN sN : Nat, f = .int .i64 fN ∧ s = .int .i64 sN ∧ headOf c fN sN ∧ Below w.heap.size w wx)
    case first =>
      by_cases h3 : c % 4 = 3
      · have ht : (((tabN c : Nat) : Int) == 0) = true := by unfold tabN; rw [h3]; rfl
        go_wp2_with fail
        go_quiet (fail)
        go_wp2_with fail
        go_meet
        exact ⟨1, c / 4 + 4, rfl, by simp, .inr (.inr (.inr ⟨h3, rfl, rfl⟩)), below_drewN hb1 _⟩
      · have ht : (((tabN c : Nat) : Int) == 0) = false := by
          have h4 : c % 4 = 0 ∨ c % 4 = 1 ∨ c % 4 = 2 := by omega
          unfold tabN
          rcases h4 with h | h | h <;> rw [h] <;> rfl
        go_wp2_with fail
        go_meet
        refine ⟨0, tabN c, rfl, rfl, ?_, hb1⟩
        have h4 : c % 4 = 0 ∨ c % 4 = 1 ∨ c % 4 = 2 := by omega
        unfold tabN headOf
        rcases h4 with h | h | h <;> rw [h] <;> simp
    case rest =>
      obtain ⟨f, s, rfl, rfl, hh, hb2⟩ := hcut
      have HH := Lib.hid hh
      have ht := headOf_told hh
      have hf := headOf_f hh
      have hc2' := headOf_s hc2 hh
      obtain ⟨t, hT⟩ : ∃ t, t = toldN c := ⟨_, rfl⟩
      rw [← hT] at ht
      have htl : ¬ (t > 9 ∨ t > l.length) → takeL l = if (if t > 4 then valL ((l.take t).drop 1) else valL (l.take t) / 4) > 4611686018427387904 ∨ sizeN (if t > 4 then valL ((l.take t).drop 1) else valL (l.take t) / 4) ≠ t then none else some ((if t > 4 then valL ((l.take t).drop 1) else valL (l.take t) / 4), t) := by
        intro a1
        rw [hT, HC.out] at a1 ⊢
        simp only [takeL, if_neg hl, if_neg a1]
      have htn : (t > 9 ∨ t > l.length) → takeL l = none := by
        intro a1
        rw [hT, HC.out] at a1
        simp only [takeL, if_neg hl, if_pos a1]
      have HTL := Lib.hid htl
      have HTN := Lib.hid htn
      have HT := Lib.hid hT
      clear htl htn hT hh
      by_cases g8 : s > 8
      · have e1 : decide ((8 : Int) < (s : Int)) = true := by simp; omega
        go_wp2_with fail
        go_ret3
        exact ⟨by rw [HTN.out (.inl (by omega))]; rfl, hb2⟩
      have e1 : decide ((8 : Int) < (s : Int)) = false := by simp; omega
      by_cases gl : t > l.length
      · have e2 : decide (((l.length : Nat) : Int) < (f : Int) + (s : Int)) = true := by simp; omega
        go_wp2_with fail
        go_ret3
        exact ⟨by rw [HTN.out (.inr gl)]; rfl, hb2⟩
      have e2 : decide (((l.length : Nat) : Int) < (f : Int) + (s : Int)) = false := by simp; omega
      have htk := HTL.out (by omega)
      have HTK := Lib.hid htk
      clear htk
      go_wp2_with fail
      have seglen : ((l.take t).drop f).length = s := by simp; omega
      have SL := Lib.hid seglen
      clear seglen
      go_loop [7, 8] (fun n i => ∃ j V : Nat, j ≤ s ∧ i = .int .i64 ((j : Int) - 1) ∧ V = valL (((l.take t).drop f).drop j) ∧ n = .int .i64 (IntKind.i64.wrap V)) (fun _ i => (intOf i + 1).toNat)
      case atStart => exact ⟨s, 0, Nat.le_refl _, rfl, by rw [List.drop_of_length_le (by rw [SL.out]; exact Nat.le_refl _)]; rfl, rfl⟩
      case round =>
        obtain ⟨j, V, hj, rfl, hV, rfl⟩ := hrel
        have HV := Lib.hid hV
        cases j with
        | succ j =>
          have hVl : V < 72057594037927936 := by
            rw [hV]
            have := valL_lt (((l.take t).drop f).drop (j + 1)) (fun b hb => HBd.out b (List.mem_of_mem_take (List.mem_of_mem_drop (List.mem_of_mem_drop hb))))
            have h2 : (((l.take t).drop f).drop (j + 1)).length ≤ 7 := by rw [List.length_drop, SL.out]; omega
            have h3 : 256 ^ (((l.take t).drop f).drop (j + 1)).length ≤ 256 ^ 7 := Nat.pow_le_pow_right (by omega) h2
            have h4 : (256:Nat)^7 = 72057594037927936 := rfl
            omega
          clear hV
          have hij : ((j + 1 : Nat) : Int) - 1 = (j : Int) := by omega
          have hw : IntKind.i64.wrap (V : Int) = (V : Int) := IntWalk.i64_in _ (by omega)
          rw [hij, hw]
          obtain ⟨b, hbb⟩ : ∃ b, b = l.getD (f + j) 0 := ⟨_, rfl⟩
          have hb256 : b < 256 := HBd.out b (by rw [hbb]; simp [show f + j < l.length by omega])
          have hcj := HCell.out (f + j) (by omega)
          rw [add_at, ← hbb] at hcj
          have hcc : wc.cell? ⟨blk, off + (f + j), none⟩ = some (.int .u8 (b : Int)) := (hb2.cell (p := ⟨blk, off + (f + j), none⟩) (World.block_lt_of_cell? w _ hcj)).trans hcj
          have hor := or_shift64 hVl hb256
          have HBB := Lib.hid hbb
          have hx1 : ((f : Int) + (j : Int)) < (l.length : Int) := by omega
          have hx2 : ((f : Int) + (j : Int)).toNat = f + j := by omega
          clear hij hw hcj hbb
          go_wp2_with fail
          refine ⟨⟨j, b + 256 * V, by omega, rfl, ?_, congrArg _ ((wrap64_eq _).trans (congrArg IntKind.i64.wrap (by omega)))⟩, by simp [intOf]⟩
          rw [HV.out, HBB.out]
          exact seg_cons (by omega) (by omega)
        | zero =>
          rw [List.drop_zero] at hV
          have hVl : V < 18446744073709551616 := by
            rw [hV]
            have := valL_lt ((l.take t).drop f) (fun b hb => HBd.out b (List.mem_of_mem_take (List.mem_of_mem_drop hb)))
            have h3 : 256 ^ ((l.take t).drop f).length ≤ 256 ^ 8 := Nat.pow_le_pow_right (by omega) (by rw [SL.out]; omega)
            have h4 : (256:Nat)^8 = 18446744073709551616 := rfl
            omega
          have hij : ((0 : Nat) : Int) - 1 = -1 := rfl
          rw [hij]
          rcases hf with ⟨rfl, hs4⟩ | ⟨rfl, hs4⟩
          · have hV4 : V < 4294967296 := by
              rw [hV]
              have := valL_lt ((l.take t).drop 0) (fun b hb => HBd.out b (List.mem_of_mem_take (List.mem_of_mem_drop hb)))
              have h3 : 256 ^ ((l.take t).drop 0).length ≤ 256 ^ 4 := Nat.pow_le_pow_right (by omega) (by rw [SL.out]; omega)
              have h4 : (256:Nat)^4 = 4294967296 := rfl
              omega
            clear hV
            have hw : IntKind.i64.wrap (V : Int) = (V : Int) := IntWalk.i64_in _ (by omega)
            rw [hw]
            clear hw
            obtain ⟨q, hq⟩ : ∃ q, q = V / 4 := ⟨_, rfl⟩
            have hqi : (V : Int) / 4 = (q : Int) := by omega
            have hq4 : q < 1073741824 := by omega
            have HQ := Lib.hid hq
            clear hq
            obtain rfl : s = t := by omega
            have htk2 : takeL l = if q > 4611686018427387904 ∨ sizeN q ≠ s then none else some (q, s) := by
              rw [HTK.out, if_neg (show ¬ s > 4 by omega), HQ.out, HV.out, List.drop_zero, List.drop_zero]
            have hiff : numL q = l.take s ↔ sizeN q = s := by
              have hT := HT.out
              rw [HC.out] at hT
              constructor
              · intro h
                have := congrArg List.length h
                rw [numL_size, List.length_take] at this
                omega
              · intro h
                have := numL_of (u := q) hl HBd.out (by omega) (by rw [← hT, if_neg (show ¬ s > 4 by omega), HQ.out, HV.out, List.drop_zero, List.drop_zero]) (by omega)
                rw [this, ← hT]
            have HTK2 := Lib.hid htk2
            have HIFF := Lib.hid hiff
            clear htk2 hiff
            go_wp2_with fail
            clear hqi
            have KS : ∀ w', Below w.heap.size w w' → (convert 50 9 (.slice (some ⟨blk, off, none⟩) (s) cap)).run Tryz.prog w' = .ok (.string (strN (l.take (s)))) w' := by
              intro w' hb
              have hrd := RdB.below (rd_cut (i := 0) hcap HCell.out (Nat.zero_le (s)) (by omega)) hb
              simp only [Nat.add_zero, Nat.sub_zero, List.drop_zero] at hrd
              exact run_str hrd (fun b h => HBd.out b (List.mem_of_mem_take h))
            have hheld : heldN (q : Int) = q := by unfold heldN; omega
            have HD := Lib.hid hheld
            have hKS := Lib.hid KS
            clear KS hheld
            have g1 : decide ((q : Int) < 0) = false := by simp
            have g2 : decide ((4611686018427387904 : Int) < (q : Int)) = false := by simp; omega
            have hsc : (s : Int) ≤ (cap : Int) := by omega
            have hws : IntKind.i64.wrap (s : Int) = (s : Int) := IntWalk.i64_in _ (by omega)
            have HWS := Lib.hid hws
            have HSC := Lib.hid hsc
            clear hws hsc
            have hlt1 := numL_lt q
            have hlt2 : ∀ b ∈ l.take (s), b < 256 := fun b h => HBd.out b (List.mem_of_mem_take h)
            by_cases hq : numL q = l.take (s)
            · have hst : ((strN (numL q)).toList == (strN (l.take (s))).toList) = true := by rw [hq]; simp
              have HST := Lib.hid hst
              have HQL := Lib.hid hq
              clear hst hq hlt1 hlt2
              refine wp_region_plan_lit (L := Later) 79 [.pure, .pure, .pure, .pure, .pure, .pure, .pure, .pure, .any (fun w v => RdB w v (numL q)), .pin (.string (strN (numL q))), .pure, .pure, .pure, .pure, .pure, .pin (.string (strN (l.take (s)))), .pure, .pure] (by kernel_rfl) (by kernel_rfl) rfl (fun w => Below.refl _ w) Later.tr ⟨fun w w' v hL hR => RdB.below hR hL, trivial⟩ ?_
              iterate 8
                first
                | (refine wm_skip (by rfl) (fun K hK => ?_))
                | (refine wm_move (by rfl) (.inl rfl) (fun K hK => ?_))
                | (refine wm_run (by rfl) (fun K hK => ?_)
                   apply Exists.intro
                   apply And.intro
                   · intro w hL
                     simp [go_sem, g1, g2, HSC.out, HWS.out, HST.out]
                     rfl)
                simp only [Act.put, Act.eval, List.setIfInBounds_toArray, List.set_cons_succ, List.set_cons_zero]
                refine hK _ ?_
                clear hK K
              refine wm_any (fun K hK => ⟨fun w' hL hk => ?_, fun v65 => ?_⟩)
              · go_wp2_with (first | (go_at_call 230; refine (ref_Num _ _).mono ?_; rw [HD.out]; rintro e w2 ⟨v2, rfl, ho3, hb3, hs3⟩) | fail)
                exact qr_any rfl rfl rfl hb3 ho3.reads
              simp only [Act.put, Act.eval, List.setIfInBounds_toArray, List.set_cons_succ, List.set_cons_zero]
              refine hK _ ?_
              clear hK K
              refine wm_pin (fun K hK => ⟨fun w' hL hk => ?_, ?_⟩)
              · have h65 : RdB w' v65 (numL q) := hk.get 65 8 (by kernel_rfl) rfl
                have hstr := run_str h65 (numL_lt q)
                go_wp2_with fail
                exact qr_pin rfl rfl rfl (Below.refl _ _)
              simp only [Act.put, Act.eval, List.setIfInBounds_toArray, List.set_cons_succ, List.set_cons_zero]
              refine hK _ ?_
              clear hK K
              iterate 5
                first
                | (refine wm_skip (by rfl) (fun K hK => ?_))
                | (refine wm_move (by rfl) (.inl rfl) (fun K hK => ?_))
                | (refine wm_run (by rfl) (fun K hK => ?_)
                   apply Exists.intro
                   apply And.intro
                   · intro w hL
                     simp [go_sem, g1, g2, HSC.out, HWS.out, HST.out]
                     rfl)
                simp only [Act.put, Act.eval, List.setIfInBounds_toArray, List.set_cons_succ, List.set_cons_zero]
                refine hK _ ?_
                clear hK K
              refine wm_pin (fun K hK => ⟨fun w' hL hk => ?_, ?_⟩)
              · have hstr := hKS.out w' (hb2.drew.trans (hL.mono hb2.drew.size))
                go_wp2_with fail
                exact qr_pin rfl rfl rfl (Below.refl _ _)
              simp only [Act.put, Act.eval, List.setIfInBounds_toArray, List.set_cons_succ, List.set_cons_zero]
              refine hK _ ?_
              clear hK K
              iterate 2
                first
                | (refine wm_skip (by rfl) (fun K hK => ?_))
                | (refine wm_move (by rfl) (.inl rfl) (fun K hK => ?_))
                | (refine wm_run (by rfl) (fun K hK => ?_)
                   apply Exists.intro
                   apply And.intro
                   · intro w hL
                     simp [go_sem, g1, g2, HSC.out, HWS.out, HST.out]
                     rfl)
                simp only [Act.put, Act.eval, List.setIfInBounds_toArray, List.set_cons_succ, List.set_cons_zero]
                refine hK _ ?_
                clear hK K
              refine wm_end (fun w' hL hk => ?_)
              clear hk
              go_wp2_with fail
              go_ret3
              refine ⟨?_, hb2.drew.trans (hL.mono hb2.drew.size)⟩
              rw [HTK2.out, if_neg (by have := HIFF.out.1 HQL.out; omega)]
              first | rfl | simp [takeV]
            · have hst : ((strN (numL q)).toList == (strN (l.take (s))).toList) = false := by rw [beq_eq_false_iff_ne]; exact fun h => hq ((strN_eq hlt1 hlt2).1 h)
              have HST := Lib.hid hst
              have HQL := Lib.hid hq
              clear hst hq hlt1 hlt2
              refine wp_region_plan_lit (L := Later) 79 [.pure, .pure, .pure, .pure, .pure, .pure, .pure, .pure, .any (fun w v => RdB w v (numL q)), .pin (.string (strN (numL q))), .pure, .pure, .pure, .pure, .pure, .pin (.string (strN (l.take (s)))), .pure, .pure] (by kernel_rfl) (by kernel_rfl) rfl (fun w => Below.refl _ w) Later.tr ⟨fun w w' v hL hR => RdB.below hR hL, trivial⟩ ?_
              iterate 8
                first
                | (refine wm_skip (by rfl) (fun K hK => ?_))
                | (refine wm_move (by rfl) (.inl rfl) (fun K hK => ?_))
                | (refine wm_run (by rfl) (fun K hK => ?_)
                   apply Exists.intro
                   apply And.intro
                   · intro w hL
                     simp [go_sem, g1, g2, HSC.out, HWS.out, HST.out]
                     rfl)
                simp only [Act.put, Act.eval, List.setIfInBounds_toArray, List.set_cons_succ, List.set_cons_zero]
                refine hK _ ?_
                clear hK K
              refine wm_any (fun K hK => ⟨fun w' hL hk => ?_, fun v65 => ?_⟩)
              · go_wp2_with (first | (go_at_call 230; refine (ref_Num _ _).mono ?_; rw [HD.out]; rintro e w2 ⟨v2, rfl, ho3, hb3, hs3⟩) | fail)
                exact qr_any rfl rfl rfl hb3 ho3.reads
              simp only [Act.put, Act.eval, List.setIfInBounds_toArray, List.set_cons_succ, List.set_cons_zero]
              refine hK _ ?_
              clear hK K
              refine wm_pin (fun K hK => ⟨fun w' hL hk => ?_, ?_⟩)
              · have h65 : RdB w' v65 (numL q) := hk.get 65 8 (by kernel_rfl) rfl
                have hstr := run_str h65 (numL_lt q)
                go_wp2_with fail
                exact qr_pin rfl rfl rfl (Below.refl _ _)
              simp only [Act.put, Act.eval, List.setIfInBounds_toArray, List.set_cons_succ, List.set_cons_zero]
              refine hK _ ?_
              clear hK K
              iterate 5
                first
                | (refine wm_skip (by rfl) (fun K hK => ?_))
                | (refine wm_move (by rfl) (.inl rfl) (fun K hK => ?_))
                | (refine wm_run (by rfl) (fun K hK => ?_)
                   apply Exists.intro
                   apply And.intro
                   · intro w hL
                     simp [go_sem, g1, g2, HSC.out, HWS.out, HST.out]
                     rfl)
                simp only [Act.put, Act.eval, List.setIfInBounds_toArray, List.set_cons_succ, List.set_cons_zero]
                refine hK _ ?_
                clear hK K
              refine wm_pin (fun K hK => ⟨fun w' hL hk => ?_, ?_⟩)
              · have hstr := hKS.out w' (hb2.drew.trans (hL.mono hb2.drew.size))
                go_wp2_with fail
                exact qr_pin rfl rfl rfl (Below.refl _ _)
              simp only [Act.put, Act.eval, List.setIfInBounds_toArray, List.set_cons_succ, List.set_cons_zero]
              refine hK _ ?_
              clear hK K
              iterate 2
                first
                | (refine wm_skip (by rfl) (fun K hK => ?_))
                | (refine wm_move (by rfl) (.inl rfl) (fun K hK => ?_))
                | (refine wm_run (by rfl) (fun K hK => ?_)
                   apply Exists.intro
                   apply And.intro
                   · intro w hL
                     simp [go_sem, g1, g2, HSC.out, HWS.out, HST.out]
                     rfl)
                simp only [Act.put, Act.eval, List.setIfInBounds_toArray, List.set_cons_succ, List.set_cons_zero]
                refine hK _ ?_
                clear hK K
              refine wm_end (fun w' hL hk => ?_)
              clear hk
              go_wp2_with fail
              go_ret3
              refine ⟨?_, hb2.drew.trans (hL.mono hb2.drew.size)⟩
              rw [HTK2.out, if_pos (.inr fun h => HQL.out (HIFF.out.2 h))]
              rfl
          · obtain rfl : t = 1 + s := by omega
            clear hV
            have htk2 : takeL l = if V > 4611686018427387904 ∨ sizeN V ≠ 1 + s then none else some (V, 1 + s) := by
              rw [HTK.out, if_pos (show 1 + s > 4 by omega), HV.out, List.drop_zero]
            have hiff : numL V = l.take (1 + s) ↔ sizeN V = 1 + s := by
              have hT := HT.out
              rw [HC.out] at hT
              constructor
              · intro h
                have := congrArg List.length h
                rw [numL_size, List.length_take] at this
                omega
              · intro h
                have := numL_of (u := V) hl HBd.out (by omega) (by rw [← hT, if_pos (show 1 + s > 4 by omega), HV.out, List.drop_zero]) (by omega)
                rw [this, ← hT]
            have HTK2 := Lib.hid htk2
            have HIFF := Lib.hid hiff
            clear htk2 hiff
            by_cases hbig : V ≥ 9223372036854775808
            · obtain ⟨M, hM⟩ : ∃ M : Int, M = IntKind.i64.wrap (V : Int) := ⟨_, rfl⟩
              rw [← hM]
              have hM0 : M < 0 := by rw [hM, IntKind.wrap_i64]; omega
              have g1 : decide (M < 0) = true := by simp; exact hM0
              clear hM hM0
              go_wp2_with fail
              refine wp_region_plan_lit (L := Later) 79 [.pure, .pure, .pure, .pure, .pure, .pure, .pure, .pure, .pure, .pure, .pure, .pure, .pure, .pure, .pure, .pure, .pure, .pure] (by kernel_rfl) (by kernel_rfl) rfl (fun w => Below.refl _ w) Later.tr trivial ?_
              iterate 18
                first
                | (refine wm_skip (by rfl) (fun K hK => ?_))
                | (refine wm_move (by rfl) (.inl rfl) (fun K hK => ?_))
                | (refine wm_run (by rfl) (fun K hK => ?_)
                   apply Exists.intro
                   apply And.intro
                   · intro w hL
                     simp [go_sem, g1]
                     rfl)
                simp only [Act.put, Act.eval, List.setIfInBounds_toArray, List.set_cons_succ, List.set_cons_zero]
                refine hK _ ?_
                clear hK K
              refine wm_end (fun w' hL hk => ?_)
              clear hk
              go_wp2_with fail
              go_ret3
              exact ⟨by rw [HTK2.out, if_pos (.inl (by omega))]; rfl, hb2.drew.trans (hL.mono hb2.drew.size)⟩
            have hw : IntKind.i64.wrap (V : Int) = (V : Int) := IntWalk.i64_in _ (by omega)
            rw [hw]
            clear hw
            by_cases hmost : V > 4611686018427387904
            · have g1 : decide ((V : Int) < 0) = false := by simp
              have g2 : decide ((4611686018427387904 : Int) < (V : Int)) = true := by simp; omega
              go_wp2_with fail
              refine wp_region_plan_lit (L := Later) 79 [.pure, .pure, .pure, .pure, .pure, .pure, .pure, .pure, .pure, .pure, .pure, .pure, .pure, .pure, .pure, .pure, .pure, .pure] (by kernel_rfl) (by kernel_rfl) rfl (fun w => Below.refl _ w) Later.tr trivial ?_
              iterate 18
                first
                | (refine wm_skip (by rfl) (fun K hK => ?_))
                | (refine wm_move (by rfl) (.inl rfl) (fun K hK => ?_))
                | (refine wm_run (by rfl) (fun K hK => ?_)
                   apply Exists.intro
                   apply And.intro
                   · intro w hL
                     simp [go_sem, g1, g2]
                     rfl)
                simp only [Act.put, Act.eval, List.setIfInBounds_toArray, List.set_cons_succ, List.set_cons_zero]
                refine hK _ ?_
                clear hK K
              refine wm_end (fun w' hL hk => ?_)
              clear hk
              go_wp2_with fail
              go_ret3
              exact ⟨by rw [HTK2.out, if_pos (.inl (by omega))]; rfl, hb2.drew.trans (hL.mono hb2.drew.size)⟩
            go_wp2_with fail
            have KS : ∀ w', Below w.heap.size w w' → (convert 50 9 (.slice (some ⟨blk, off, none⟩) (1 + s) cap)).run Tryz.prog w' = .ok (.string (strN (l.take (1 + s)))) w' := by
              intro w' hb
              have hrd := RdB.below (rd_cut (i := 0) hcap HCell.out (Nat.zero_le (1 + s)) (by omega)) hb
              simp only [Nat.add_zero, Nat.sub_zero, List.drop_zero] at hrd
              exact run_str hrd (fun b h => HBd.out b (List.mem_of_mem_take h))
            have hheld : heldN (V : Int) = V := by unfold heldN; omega
            have HD := Lib.hid hheld
            have hKS := Lib.hid KS
            clear KS hheld
            have g1 : decide ((V : Int) < 0) = false := by simp
            have g2 : decide ((4611686018427387904 : Int) < (V : Int)) = false := by simp; omega
            have hsc : (1 : Int) + (s : Int) ≤ (cap : Int) := by omega
            have hws : IntKind.i64.wrap ((1 : Int) + (s : Int)) = (1 : Int) + (s : Int) := IntWalk.i64_in _ (by omega)
            have hws2 : ((1 : Int) + (s : Int)).toNat = 1 + s := by omega
            have HWS := Lib.hid hws
            have HWS2 := Lib.hid hws2
            have HSC := Lib.hid hsc
            clear hws hsc hws2
            have hlt1 := numL_lt V
            have hlt2 : ∀ b ∈ l.take (1 + s), b < 256 := fun b h => HBd.out b (List.mem_of_mem_take h)
            by_cases hq : numL V = l.take (1 + s)
            · have hst : ((strN (numL V)).toList == (strN (l.take (1 + s))).toList) = true := by rw [hq]; simp
              have HST := Lib.hid hst
              have HQL := Lib.hid hq
              clear hst hq hlt1 hlt2
              refine wp_region_plan_lit (L := Later) 79 [.pure, .pure, .pure, .pure, .pure, .pure, .pure, .pure, .any (fun w v => RdB w v (numL V)), .pin (.string (strN (numL V))), .pure, .pure, .pure, .pure, .pure, .pin (.string (strN (l.take (1 + s)))), .pure, .pure] (by kernel_rfl) (by kernel_rfl) rfl (fun w => Below.refl _ w) Later.tr ⟨fun w w' v hL hR => RdB.below hR hL, trivial⟩ ?_
              iterate 8
                first
                | (refine wm_skip (by rfl) (fun K hK => ?_))
                | (refine wm_move (by rfl) (.inl rfl) (fun K hK => ?_))
                | (refine wm_run (by rfl) (fun K hK => ?_)
                   apply Exists.intro
                   apply And.intro
                   · intro w hL
                     simp [go_sem, g1, g2, HSC.out, HWS.out, HWS2.out, HST.out]
                     rfl)
                simp only [Act.put, Act.eval, List.setIfInBounds_toArray, List.set_cons_succ, List.set_cons_zero]
                refine hK _ ?_
                clear hK K
              refine wm_any (fun K hK => ⟨fun w' hL hk => ?_, fun v65 => ?_⟩)
              · go_wp2_with (first | (go_at_call 230; refine (ref_Num _ _).mono ?_; rw [HD.out]; rintro e w2 ⟨v2, rfl, ho3, hb3, hs3⟩) | fail)
                exact qr_any rfl rfl rfl hb3 ho3.reads
              simp only [Act.put, Act.eval, List.setIfInBounds_toArray, List.set_cons_succ, List.set_cons_zero]
              refine hK _ ?_
              clear hK K
              refine wm_pin (fun K hK => ⟨fun w' hL hk => ?_, ?_⟩)
              · have h65 : RdB w' v65 (numL V) := hk.get 65 8 (by kernel_rfl) rfl
                have hstr := run_str h65 (numL_lt V)
                go_wp2_with fail
                exact qr_pin rfl rfl rfl (Below.refl _ _)
              simp only [Act.put, Act.eval, List.setIfInBounds_toArray, List.set_cons_succ, List.set_cons_zero]
              refine hK _ ?_
              clear hK K
              iterate 5
                first
                | (refine wm_skip (by rfl) (fun K hK => ?_))
                | (refine wm_move (by rfl) (.inl rfl) (fun K hK => ?_))
                | (refine wm_run (by rfl) (fun K hK => ?_)
                   apply Exists.intro
                   apply And.intro
                   · intro w hL
                     simp [go_sem, g1, g2, HSC.out, HWS.out, HWS2.out, HST.out]
                     rfl)
                simp only [Act.put, Act.eval, List.setIfInBounds_toArray, List.set_cons_succ, List.set_cons_zero]
                refine hK _ ?_
                clear hK K
              refine wm_pin (fun K hK => ⟨fun w' hL hk => ?_, ?_⟩)
              · have hstr := hKS.out w' (hb2.drew.trans (hL.mono hb2.drew.size))
                go_wp2_with fail
                exact qr_pin rfl rfl rfl (Below.refl _ _)
              simp only [Act.put, Act.eval, List.setIfInBounds_toArray, List.set_cons_succ, List.set_cons_zero]
              refine hK _ ?_
              clear hK K
              iterate 2
                first
                | (refine wm_skip (by rfl) (fun K hK => ?_))
                | (refine wm_move (by rfl) (.inl rfl) (fun K hK => ?_))
                | (refine wm_run (by rfl) (fun K hK => ?_)
                   apply Exists.intro
                   apply And.intro
                   · intro w hL
                     simp [go_sem, g1, g2, HSC.out, HWS.out, HWS2.out, HST.out]
                     rfl)
                simp only [Act.put, Act.eval, List.setIfInBounds_toArray, List.set_cons_succ, List.set_cons_zero]
                refine hK _ ?_
                clear hK K
              refine wm_end (fun w' hL hk => ?_)
              clear hk
              go_wp2_with fail
              go_ret3
              refine ⟨?_, hb2.drew.trans (hL.mono hb2.drew.size)⟩
              rw [HTK2.out, if_neg (by have := HIFF.out.1 HQL.out; omega)]
              first | rfl | simp [takeV]
            · have hst : ((strN (numL V)).toList == (strN (l.take (1 + s))).toList) = false := by rw [beq_eq_false_iff_ne]; exact fun h => hq ((strN_eq hlt1 hlt2).1 h)
              have HST := Lib.hid hst
              have HQL := Lib.hid hq
              clear hst hq hlt1 hlt2
              refine wp_region_plan_lit (L := Later) 79 [.pure, .pure, .pure, .pure, .pure, .pure, .pure, .pure, .any (fun w v => RdB w v (numL V)), .pin (.string (strN (numL V))), .pure, .pure, .pure, .pure, .pure, .pin (.string (strN (l.take (1 + s)))), .pure, .pure] (by kernel_rfl) (by kernel_rfl) rfl (fun w => Below.refl _ w) Later.tr ⟨fun w w' v hL hR => RdB.below hR hL, trivial⟩ ?_
              iterate 8
                first
                | (refine wm_skip (by rfl) (fun K hK => ?_))
                | (refine wm_move (by rfl) (.inl rfl) (fun K hK => ?_))
                | (refine wm_run (by rfl) (fun K hK => ?_)
                   apply Exists.intro
                   apply And.intro
                   · intro w hL
                     simp [go_sem, g1, g2, HSC.out, HWS.out, HWS2.out, HST.out]
                     rfl)
                simp only [Act.put, Act.eval, List.setIfInBounds_toArray, List.set_cons_succ, List.set_cons_zero]
                refine hK _ ?_
                clear hK K
              refine wm_any (fun K hK => ⟨fun w' hL hk => ?_, fun v65 => ?_⟩)
              · go_wp2_with (first | (go_at_call 230; refine (ref_Num _ _).mono ?_; rw [HD.out]; rintro e w2 ⟨v2, rfl, ho3, hb3, hs3⟩) | fail)
                exact qr_any rfl rfl rfl hb3 ho3.reads
              simp only [Act.put, Act.eval, List.setIfInBounds_toArray, List.set_cons_succ, List.set_cons_zero]
              refine hK _ ?_
              clear hK K
              refine wm_pin (fun K hK => ⟨fun w' hL hk => ?_, ?_⟩)
              · have h65 : RdB w' v65 (numL V) := hk.get 65 8 (by kernel_rfl) rfl
                have hstr := run_str h65 (numL_lt V)
                go_wp2_with fail
                exact qr_pin rfl rfl rfl (Below.refl _ _)
              simp only [Act.put, Act.eval, List.setIfInBounds_toArray, List.set_cons_succ, List.set_cons_zero]
              refine hK _ ?_
              clear hK K
              iterate 5
                first
                | (refine wm_skip (by rfl) (fun K hK => ?_))
                | (refine wm_move (by rfl) (.inl rfl) (fun K hK => ?_))
                | (refine wm_run (by rfl) (fun K hK => ?_)
                   apply Exists.intro
                   apply And.intro
                   · intro w hL
                     simp [go_sem, g1, g2, HSC.out, HWS.out, HWS2.out, HST.out]
                     rfl)
                simp only [Act.put, Act.eval, List.setIfInBounds_toArray, List.set_cons_succ, List.set_cons_zero]
                refine hK _ ?_
                clear hK K
              refine wm_pin (fun K hK => ⟨fun w' hL hk => ?_, ?_⟩)
              · have hstr := hKS.out w' (hb2.drew.trans (hL.mono hb2.drew.size))
                go_wp2_with fail
                exact qr_pin rfl rfl rfl (Below.refl _ _)
              simp only [Act.put, Act.eval, List.setIfInBounds_toArray, List.set_cons_succ, List.set_cons_zero]
              refine hK _ ?_
              clear hK K
              iterate 2
                first
                | (refine wm_skip (by rfl) (fun K hK => ?_))
                | (refine wm_move (by rfl) (.inl rfl) (fun K hK => ?_))
                | (refine wm_run (by rfl) (fun K hK => ?_)
                   apply Exists.intro
                   apply And.intro
                   · intro w hL
                     simp [go_sem, g1, g2, HSC.out, HWS.out, HWS2.out, HST.out]
                     rfl)
                simp only [Act.put, Act.eval, List.setIfInBounds_toArray, List.set_cons_succ, List.set_cons_zero]
                refine hK _ ?_
                clear hK K
              refine wm_end (fun w' hL hk => ?_)
              clear hk
              go_wp2_with fail
              go_ret3
              refine ⟨?_, hb2.drew.trans (hL.mono hb2.drew.size)⟩
              rw [HTK2.out, if_pos (.inr fun h => HQL.out (HIFF.out.2 h))]
              rfl

theorem ref_Take (v : Value) (l : List Nat) (w : World) (h : RdB w v l) (hb : ∀ b ∈ l, b < 256) :
    Calls Tryz.prog 185 #[v] w fun e w' => e = takeV (takeL l) ∧ Below w.heap.size w w' := by
  by_cases hl : l = []
  · subst hl; exact ref_Take_0 v w h
  · exact ref_Take_x v l w h hl hb

end Go.Proofs.YteioacpfphigjaaGreatDoor
end

section
namespace Go.Proofs.YteioacpfphigjaaGreatDoor
open Go.RowKit
set_option linter.unusedVariables false

theorem kN_mono {a b : Nat} (h : a ≤ b) : kN a ≤ kN b := by
  unfold kN
  split
  · split <;> (try split) <;> (try split) <;> (try split) <;> omega
  split
  · split <;> (try split) <;> (try split) <;> (try split) <;> omega
  split
  · split <;> (try split) <;> (try split) <;> (try split) <;> omega
  split
  · split <;> (try split) <;> (try split) <;> (try split) <;> omega
  · split <;> (try split) <;> (try split) <;> (try split) <;> omega
theorem sizeN_mono {a b : Nat} (h : a ≤ b) : sizeN a ≤ sizeN b := by
  have ka := kN_ge a
  have kb := kN_ge b
  have hk := kN_mono h
  unfold sizeN
  split
  · split <;> (try split) <;> (try split) <;> omega
  split
  · split <;> (try split) <;> (try split) <;> omega
  split
  · split <;> (try split) <;> (try split) <;> omega
  · split <;> (try split) <;> (try split) <;> omega
theorem heldN_mono {a b : Int} (h : a ≤ b) : heldN a ≤ heldN b := by unfold heldN; omega
theorem fit_i64 {n : Int} (h : (Lit.int .i64 n).wf = true) : -9223372036854775808 ≤ n ∧ n ≤ 9223372036854775807 := by
  simp [Lit.wf, IntKind.min, IntKind.max, IntKind.signed, IntKind.bits] at h
  omega

end Go.Proofs.YteioacpfphigjaaGreatDoor
end

section
namespace Go.Proofs.YteioacpfphigjaaGreatDoor
open Go.RowKit
set_option linter.unusedVariables false

theorem own_app {B : Nat} {v : Value} {xs l : List Nat} {w : World} (h : w.ownsRow B 5 1 v ((BsM xs).length + l.length) (BsM xs ++ BsM l)) : OwnB B v (BsM (xs ++ l)) w := by
  unfold OwnB; rw [Bs_append, List.length_append, Bs_length l]; exact h

theorem RdB.cells {w : World} {a : Addr} {cap n : Nat} {l : List Nat} (h : RdB w (.slice (some a) n cap) l) : n = l.length ∧ ∀ j u, (BsM l)[j]? = some u → w.cell? (a.add j) = some u := by
  rcases h with ⟨h1, h2⟩ | ⟨a', cap', h1, hc, hcell⟩
  · cases h1
  · injection h1 with h1 h2 h3
    injection h1 with h1
    subst h1 h2
    refine ⟨rfl, fun j u hj => ?_⟩
    simp only [BsM, List.getElem?_map] at hj
    by_cases hl : j < l.length
    · rw [List.getElem?_eq_getElem hl] at hj
      simp at hj
      rw [hcell j hl, ← hj]; simp [hl]
    · rw [List.getElem?_eq_none (by omega)] at hj; simp at hj

/-- 'append(v, u...)' of bytes. -/
theorem wp_app_B {w : World} {ops : Array Oper} {rest : List Oper} {o : Oper} {a : Act} {Q : Exit → Act → World → Prop} {s x : Operand} {B : Nat} {v u : Value} {xs l : List Nat} (hgd : o.guard = none)
    (ho : o.op = .call { callee := .builtin .append, args := #[s, x], argTypes := #[50, 50] }) (hs : a.eval s = v) (hx : a.eval x = u)
    (hown : OwnB B v (BsM xs) w) (hr : RdB w u l) (hlen : xs.length + l.length ≤ 1099511627776) (hB : B ≤ w.heap.size)
    (h : ∀ v' w', OwnB B v' (BsM (xs ++ l)) w' → Below B w w' → B ≤ w'.heap.size → w.grownBy w' v.ownBlock → wpList Tryz.prog ops Q rest (a.put o.dst v') w') : wpList Tryz.prog ops Q (o :: rest) a w := by
  obtain ⟨i0, hi, hz0, hz1, hz2⟩ := info_parts info5
  have hr' := hr
  rcases hr with ⟨rfl, rfl⟩ | ⟨ad, cap, rfl, hc, hcell⟩
  · refine wpList_append_own_none hgd s x _ ho B 5 i0 1 Tryz.underlying50 hi v _ _ hs hown hx ?_
    exact h v w (by rw [List.append_nil]; exact hown) (Below.refl _ _) hB ⟨rfl, rfl, rfl, Nat.le_refl _, fun _ _ _ => rfl⟩
  · refine wpList_append_own _ hgd s x _ ho B 5 i0 (.int .u8 0) 1 1 Tryz.underlying50 hi hz0 hz1 hz2 rfl (by decide) v _ _ hs hown ad l.length cap (BsM l) hx (by rw [Bs_length, Nat.mul_one]) hr'.cells.2 (Bs_one l) (by rw [Bs_length]; unfold maxLen; omega) (by rw [Bs_length]; omega) hB ?_
    intro v' w' h1 h2 _
    exact h v' w' (own_app h1) ((Below.refl _ _).grown h2 hB (fun k hk => (World.ownsRow.lt hown k hk).1)) (Nat.le_trans hB h2.size) h2

theorem grown_alloc {w w' : World} {o : Obj} {r : Option Nat} (h : (w.alloc o).grownBy w' r) : w.grownBy w' r :=
  ⟨h.os, h.tape, h.output, by have := h.size; simp at this; omega, fun k hk hr => (h.block k (by simp; omega) hr).trans (Below.heap_alloc w o k hk)⟩

/-- What owns some bytes reads as they do, at its own address. -/
theorem own_open {B : Nat} {v : Value} {l : List Nat} {w : World} (h : OwnB B v (BsM l) w) (hl : 0 < l.length) :
    ∃ g cap, v = .slice (some ⟨g, 0, none⟩) l.length cap ∧ B ≤ g ∧ g < w.heap.size ∧ l.length ≤ cap ∧ (∀ i, i < l.length → w.cell? ((⟨g, 0, none⟩ : Addr).add i) = some (.int .u8 ((l.getD i 0 : Nat) : Int))) ∧ (∀ i, w.frozen? ⟨g, i, none⟩ = false) := by
  have h' := h
  obtain ⟨h1, h2⟩ := h
  rcases h2 with ⟨rfl, h0⟩ | ⟨g, cap, cur, rfl, hg, hh, hc, hr⟩
  · rw [Bs_length] at h0; omega
  · have hlt := World.ownsRow.lt h' g rfl
    rw [Bs_length] at hc ⊢
    refine ⟨g, cap, rfl, hg, hlt.2, hc, fun i hi => World.ownsRow.cells h' rfl i _ (by simp [BsM, hi]), fun i => ?_⟩
    unfold World.frozen?; rw [hh]; simp

/-- The first bytes of what reads as bytes. -/
theorem rd_take {w : World} {a : Addr} {cap n : Nat} {l : List Nat} (h : RdB w (.slice (some a) n cap) l) {k : Nat} (hk : k ≤ n) : RdB w (.slice (some a) k cap) (l.take k) := by
  rcases h with ⟨h1, h2⟩ | ⟨a', cap', h1, hc, hcell⟩
  · cases h1
  · injection h1 with h1 h2 h3
    injection h1 with h1
    subst h1 h2 h3
    have hlen : (l.take k).length = k := by simp; omega
    refine .inr ⟨a, cap, by rw [hlen], by rw [hlen]; omega, fun i hi => ?_⟩
    rw [hlen] at hi
    rw [hcell i (by omega)]
    simp only [List.getD_eq_getElem?_getD, List.getElem?_take]
    rw [if_pos hi]

end Go.Proofs.YteioacpfphigjaaGreatDoor
end

section
namespace Go.Proofs.YteioacpfphigjaaGreatDoor
open Go.ChangeShapes Go.WideShapes Go.ChangeAt Go.RowKit Go.Deep
set_option linter.unusedVariables false

section
variable {H : Type} {enc : TypeId × Value → H} {P : Program} {w : World} {base : Nat} {held : Bool}

theorem wf_u8 {n : Int} (h : (Lit.int .u8 n).wf = true) : 0 ≤ n ∧ n < 256 := by
  simp [Lit.wf, IntKind.min, IntKind.max, IntKind.signed, IntKind.bits] at h
  omega

theorem open_RdIM0 {t e : TypeId} {k : IntKind} {v : Value} {d : DataW H} {p : List MemPlace} (ht : P.underlying t = some (.slice e)) (he : P.underlying e = some (.int k)) (hc : P.cellsOf e = 1)
    (h : ∃ fuel, DataW.trod enc P w base (fun _ => true) held fuel t [v] = some (d, p)) : (v = .slice none 0 0) ∨
      ∃ (a : Addr) (len cap : Nat) (zs : List Int), v = .slice (some a) len cap ∧ len ≤ cap ∧ cap ≤ maxLen ∧ zs.length = cap ∧ (∀ i, i < cap → w.cell? (a.add i) = some (.int k (zs.getD i 0))) ∧ (∀ n ∈ zs, (Lit.int k n).wf = true) := by
  obtain ⟨fuel, hf⟩ := h
  rcases open_ints ht he hc hf with ⟨hcs, -⟩ | ⟨a, len, cap, zs, hcs, hb, hl, hm, hz, -, hcell, hwz⟩
  · exact .inl (by simpa using hcs)
  · simp only [if_true] at hz
    exact .inr ⟨a, len, cap, zs, by simpa using hcs, hl, hm, hz, fun i hi => hcell i (by omega), hwz⟩

theorem RdB_of {a : Addr} {len cap : Nat} {zs : List Int} (hl : len ≤ cap) (hm : cap ≤ maxLen) (hz : zs.length = cap) (hcell : ∀ i, i < cap → w.cell? (a.add i) = some (.int .u8 (zs.getD i 0))) (hw : ∀ n ∈ zs, (Lit.int .u8 n).wf = true) :
    ∃ l : List Nat, l.length = len ∧ RdB w (.slice (some a) len cap) l ∧ (∀ b ∈ l, b < 256) := by
  have hlen : ((zs.take len).map Int.toNat).length = len := by simp; omega
  refine ⟨(zs.take len).map Int.toNat, hlen, .inr ⟨a, cap, by rw [hlen], by rw [hlen]; exact hl, fun i hi => ?_⟩, ?_⟩
  · rw [hlen] at hi
    rw [hcell i (by omega)]
    have hiz : i < zs.length := by omega
    have := wf_u8 (hw zs[i] (List.getElem_mem hiz))
    have e1 : zs.getD i 0 = zs[i] := by simp [hiz]
    have e2 : ((zs.take len).map Int.toNat).getD i 0 = zs[i].toNat := by simp [hi, hiz]
    rw [e1, e2, Int.toNat_of_nonneg this.1]
  · intro b hb
    simp only [List.mem_map] at hb
    obtain ⟨z, hz', rfl⟩ := hb
    have := wf_u8 (hw z (List.mem_of_mem_take hz'))
    omega

theorem cells_slice {v : Value} {r : Reach} {b0 : Nat} {t e : TypeId} (ht : P.underlying t = some (.slice e)) (hv : Value.okWide P w r b0 t v) : v.cells.toList = [v] := by
  unfold Value.okWide at hv
  rw [ht] at hv
  simp only [Cell.okWide, Cell.ok, ht] at hv
  cases v <;> simp [Value.cells] at hv ⊢

theorem open_RdB {t e : TypeId} {v : Value} {d : DataW H} {p : List MemPlace} {r : Reach} {b0 : Nat} (ht : P.underlying t = some (.slice e)) (he : P.underlying e = some (.int .u8)) (hc : P.cellsOf e = 1)
    (hv : Value.okWide P w r b0 t v) (h : DataW.Trod enc P w base (fun _ => true) held t v d p) : ∃ l : List Nat, RdB w v l ∧ (∀ b ∈ l, b < 256) ∧ l.length ≤ maxLen := by
  obtain ⟨fuel, hf⟩ := h
  rw [cells_slice ht hv] at hf
  rcases open_RdIM0 ht he hc ⟨fuel, hf⟩ with rfl | ⟨a, len, cap, zs, rfl, hl, hm, hz, hcell, hw⟩
  · exact ⟨[], .inl ⟨rfl, rfl⟩, by simp, by simp⟩
  · obtain ⟨l, h1, h2, h3⟩ := RdB_of hl hm hz hcell hw
    exact ⟨l, h2, h3, by omega⟩

theorem open_RdIM {t e : TypeId} {v : Value} {d : DataW H} {p : List MemPlace} {r : Reach} {b0 : Nat} (ht : P.underlying t = some (.slice e)) (he : P.underlying e = some (.int .i64)) (hc : P.cellsOf e = 1)
    (hv : Value.okWide P w r b0 t v) (h : DataW.Trod enc P w base (fun _ => true) held t v d p) : ∃ l : List Int, RdIM w v l ∧ (∀ n ∈ l, (Lit.int .i64 n).wf = true) ∧ l.length ≤ maxLen := by
  obtain ⟨fuel, hf⟩ := h
  rw [cells_slice ht hv] at hf
  rcases open_RdIM0 ht he hc ⟨fuel, hf⟩ with rfl | ⟨a, len, cap, zs, rfl, hl, hm, hz, hcell, hw⟩
  · exact ⟨[], .inl ⟨rfl, rfl⟩, by simp, by simp⟩
  · have hlen : (zs.take len).length = len := by simp; omega
    refine ⟨zs.take len, .inr ⟨a, cap, by rw [hlen], by rw [hlen]; exact hl, fun i hi => ?_⟩, fun n hn => hw n (List.mem_of_mem_take hn), by rw [hlen]; omega⟩
    rw [hlen] at hi
    rw [hcell i (by omega)]
    have hiz : i < zs.length := by omega
    simp [hiz, hi]

/-- A slice of slices of bytes reads as these rows. -/
def RdBB (w : World) (v : Value) (l : List (List Nat)) : Prop :=
  (v = .slice none 0 0 ∧ l = []) ∨ ∃ a cap, v = .slice (some a) l.length cap ∧ l.length ≤ cap ∧ ∀ i, i < l.length → ∃ u, w.cell? (a.add i) = some u ∧ RdB w u (l.getD i [])

theorem RdBB.below {w w' : World} {v : Value} {l : List (List Nat)} (h : RdBB w v l) (hb : Below w.heap.size w w') : RdBB w' v l := by
  rcases h with h | ⟨a, cap, hv, hc, hcell⟩
  · exact .inl h
  · refine .inr ⟨a, cap, hv, hc, fun i hi => ?_⟩
    obtain ⟨u, h1, h2⟩ := hcell i hi
    have hl := cell_block h1
    have : (a.add i).block = a.block := by unfold Addr.add; split <;> rfl
    exact ⟨u, by rw [hb.cell (by rw [this]; exact hl)]; exact h1, h2.below hb⟩

theorem open_RdBB {t e q : TypeId} {v : Value} {d : DataW H} {p : List MemPlace} {r : Reach} {b0 : Nat} (ht : P.underlying t = some (.slice e)) (he : P.underlying e = some (.slice q)) (hq : P.underlying q = some (.int .u8)) (ce : P.cellsOf e = 1) (cq : P.cellsOf q = 1)
    (hv : Value.okWide P w r b0 t v) (h : DataW.Trod enc P w base (fun _ => true) held t v d p) : ∃ l : List (List Nat), RdBB w v l ∧ (∀ x ∈ l, (∀ b ∈ x, b < 256) ∧ x.length ≤ maxLen) ∧ l.length ≤ maxLen := by
  obtain ⟨fuel, hf⟩ := h
  rw [cells_slice ht hv] at hf
  rcases open_slice1 ht ce hf with ⟨hcs, -⟩ | ⟨a, len, cap, m, n, V, D, Pl, hcs, hb, hl, hm, hmm, -, hx⟩
  · have : v = .slice none 0 0 := by simpa using hcs
    subst this
    exact ⟨[], .inl ⟨rfl, rfl⟩, by simp, by simp⟩
  · simp only [if_true] at hmm
    have hmm' := hmm.symm
    subst hmm'
    have hvv : v = .slice (some a) len cap := by simpa using hcs
    subst hvv
    have each : ∀ i, i < cap → ∃ l : List Nat, RdB w (V i) l ∧ (∀ b ∈ l, b < 256) ∧ l.length ≤ maxLen := by
      intro i hi
      rcases open_RdIM0 he hq cq ⟨_, (hx i hi).2⟩ with h0 | ⟨a', len', cap', zs, h0, hl', hm', hz, hcell, hw⟩
      · exact ⟨[], .inl ⟨h0, rfl⟩, by simp, by simp⟩
      · obtain ⟨l, h1, h2, h3⟩ := RdB_of hl' hm' hz hcell hw
        exact ⟨l, by rw [h0]; exact h2, h3, by omega⟩
    obtain ⟨L, hL⟩ := choose_lt each
    have hlen : ((List.range len).map L).length = len := by simp
    refine ⟨(List.range len).map L, .inr ⟨a, cap, by rw [hlen], by rw [hlen]; exact hl, fun i hi => ?_⟩, fun x hx => ?_, by rw [hlen]; omega⟩
    · rw [hlen] at hi
      refine ⟨V i, (hx i (by omega)).1, ?_⟩
      have : ((List.range len).map L).getD i [] = L i := by simp [hi]
      rw [this]; exact (hL i (by omega)).1
    · simp only [List.mem_map, List.mem_range] at hx
      obtain ⟨i, hi, rfl⟩ := hx
      exact (hL i (by omega)).2
end
end Go.Proofs.YteioacpfphigjaaGreatDoor
end

section
namespace Go.Proofs.YteioacpfphigjaaGreatDoor
open Go.RowKit
set_option linter.unusedVariables false

/-- A row's bytes. -/
def rowL (p : List Nat) : List Nat := numL p.length ++ p
def rowsL : List (List Nat) → List Nat
  | [] => []
  | p :: l => rowL p ++ rowsL l
theorem rowsL_snoc (l : List (List Nat)) (p : List Nat) : rowsL (l ++ [p]) = rowsL l ++ rowL p := by
  induction l with
  | nil => simp [rowsL]
  | cons a l ih => simp [rowsL, ih]
theorem rowL_length (p : List Nat) : (rowL p).length ≤ 9 + p.length := by
  have := numL_length p.length
  simp [rowL]; omega
/-- How much rows are, each with what stands ahead of it. -/
def bulkL : List (List Nat) → Nat
  | [] => 0
  | p :: l => 9 + p.length + bulkL l
theorem rowsL_length (l : List (List Nat)) : (rowsL l).length ≤ bulkL l := by
  induction l with
  | nil => simp [rowsL]
  | cons p l ih => have := rowL_length p; simp [rowsL, bulkL]; omega
theorem bulkL_take (l : List (List Nat)) (k : Nat) : bulkL (l.take k) ≤ bulkL l := by
  induction l generalizing k with
  | nil => simp [bulkL]
  | cons p l ih =>
    cases k with
    | zero => simp [bulkL]
    | succ k => have := ih k; simp [bulkL]; omega
theorem bulkL_at (l : List (List Nat)) (k : Nat) (h : k < l.length) : 9 + (l.getD k []).length ≤ bulkL l := by
  induction l generalizing k with
  | nil => simp at h
  | cons p l ih =>
    cases k with
    | zero => simp [bulkL]
    | succ k => have := ih k (by simpa using h); simp [bulkL] at this ⊢; omega
theorem rowL_lt (p : List Nat) (h : ∀ b ∈ p, b < 256) : ∀ b ∈ rowL p, b < 256 := by
  intro b hb
  unfold rowL at hb
  rw [List.mem_append] at hb
  exact hb.elim (numL_lt _ b) (h b)

set_option maxHeartbeats 1000000 in
theorem compact_Row (v u : Value) (b : List Nat) (l : List (List Nat)) (w : World) (hb : RdB w v b) (hl : RdBB w u l) (hbl : b.length + bulkL l ≤ 1000000000) (hm : l.length ≤ maxLen) :
    Calls Tryz.prog 50 #[v, u] w (OwnRet w.heap.size (BsM (b ++ rowsL l)) w) := by
  unfold maxLen at hm
  obtain ⟨B, hBe⟩ : ∃ B, B = w.heap.size := ⟨_, rfl⟩
  rw [← hBe]
  have HB := Lib.hid hBe
  have HLn : Hid (RdBB w u l) := Lib.hid hl
  have HBn : Hid (RdB w v b) := Lib.hid hb
  clear hBe hb
  obtain ⟨ao, cap, rfl⟩ : ∃ ao cap, u = .slice ao l.length cap := by
    rcases hl with ⟨rfl, rfl⟩ | ⟨a, cap, rfl, -⟩
    · exact ⟨_, _, rfl⟩
    · exact ⟨_, _, rfl⟩
  clear hl
  go_enter Tryz.func50, Tryz.ntmps50
  go_wp2_with (first | (go_at_call 121; refine (bytes_Clone v b w HBn.out (by omega)).mono ?_; rintro e w1 ⟨v1, rfl, ho1, hb1, hs1⟩) | fail)
  go_loopw [5, 12] (fun b' i wr => ∃ j : Nat, j ≤ l.length ∧ i = .int .i64 j ∧ OwnB B b' (BsM (b ++ rowsL (l.take j))) wr ∧ Below B w wr ∧ B ≤ wr.heap.size) (fun _ i _ => l.length - (intOf i).toNat)
  case atStart => exact ⟨0, Nat.zero_le _, rfl, by simpa [rowsL, HB.out] using ho1, by rw [HB.out]; exact hb1, by rw [HB.out]; exact hs1⟩
  case round =>
    obtain ⟨j, hj, rfl, ho, hb, hs⟩ := hrel
    by_cases hlt : j < l.length
    · obtain ⟨L, hL⟩ : ∃ L, L = b ++ rowsL (l.take j) := ⟨_, rfl⟩
      have hLl : L.length ≤ 1000000000 := by
        rw [hL, List.length_append]
        have := rowsL_length (l.take j)
        have := bulkL_take l j
        omega
      rw [← hL] at ho
      have R := (show RdBB w _ l from HLn.out)
      obtain ⟨a, cap', ha, hcap, hcell⟩ : ∃ a cap', (Value.slice ao l.length cap) = .slice (some a) l.length cap' ∧ l.length ≤ cap' ∧ ∀ i, i < l.length → ∃ u, w.cell? (a.add i) = some u ∧ RdB w u (l.getD i []) := by
        rcases R with ⟨h1, h2⟩ | h
        · rw [h2] at hlt; simp at hlt
        · exact h
      obtain ⟨x, hcj, hrj⟩ := hcell j hlt
      have halt := cell_block hcj
      obtain ⟨q, hq⟩ : ∃ q, q = l.getD j [] := ⟨_, rfl⟩
      have hql : q.length ≤ 1000000000 := by have := bulkL_at l j hlt; rw [← hq] at this; omega
      rw [← hq] at hrj
      have hnext : b ++ rowsL (l.take (j + 1)) = (L ++ numL q.length) ++ q := by
        have e : l.take (j + 1) = l.take j ++ [q] := by
          rw [List.take_succ_eq_append_getElem hlt, hq]; simp [hlt]
        rw [e, rowsL_snoc, hL, rowL]; simp
      have HN := Lib.hid hnext
      obtain ⟨u0, hc0, -⟩ := hcell 0 (by omega)
      have hsp := World.cell?_spot hc0
      clear hcell R hq hnext hL hc0
      injection ha with h1 h2 h3
      subst h1 h3
      obtain ⟨blk, off, spot⟩ := a
      have hspot : spot = none := by simpa [Addr.add] using hsp
      subst hspot
      rw [add_at] at hcj
      have hcx : wr.cell? ⟨blk, off + j, none⟩ = some x := (hb.cell (p := ⟨blk, off + j, none⟩) (by rw [HB.out]; exact halt)).trans hcj
      have HRJ := Lib.hid hrj
      obtain ⟨ao2, cap2, rfl⟩ := hrj.lenOf
      have hone : (Value.slice ao2 q.length cap2).oneCell' = true := rfl
      clear hcj halt h2 hsp hrj
      go_wp2_with fail
      refine (compact_put B u5 (BsM L) q.length _ (by omega) ho (by rw [Bs_length]; omega) hs).mono ?_
      rintro e w2 ⟨v2, rfl, ho2, hb2, hs2⟩
      rw [← Bs_append] at ho2
      have hr2 := Lib.hid (HRJ.out.below ((hb.trans hb2).mono (Nat.le_of_eq HB.out.symm)))
      have hnl := numL_length q.length
      go_wp2_with (first | (at_builtin; refine wp_app_B rfl rfl rfl rfl ho2 hr2.out (by rw [List.length_append]; omega) hs2 ?_; intro v3 w3 ho3 hb3 hs3 hg3; rw [← HN.out] at ho3) | fail)
      exact ⟨⟨j + 1, by omega, by go_num, ho3, (hb.trans hb2).trans hb3, hs3⟩, by simp [intOf]; omega⟩
    · go_wp2
      go_ret
      have : j = l.length := by omega
      subst this
      rw [List.take_length] at ho
      exact ⟨_, rfl, ho, hb, hs⟩

end Go.Proofs.YteioacpfphigjaaGreatDoor
end

section
namespace Go.Proofs.YteioacpfphigjaaGreatDoor
open Go.RowKit
set_option linter.unusedVariables false

/-- What is owned stays so, where only new memory has turned. -/
theorem own_kept {B : Nat} {v : Value} {xs : List Value} {w w' : World} (h : OwnB B v xs w) (hb : Below w.heap.size w w') (hs : B ≤ w.heap.size) : OwnB B v xs w' := by
  refine World.ownsRow.kept (row := none) h ⟨hb.os, hb.tape, hb.output, hb.size, fun k hk _ => hb.block k hk⟩ ?_
  rcases h.2 with ⟨rfl, -⟩ | ⟨g, cap, cur, rfl, -⟩
  · exact .inl rfl
  · exact .inr (by simp [Value.ownBlock])

/-- The row that bytes begin with, and how many they are. -/
def cutL (l : List Nat) : Option (List Nat × Nat) :=
  match takeL l with
  | none => none
  | some (n, s) => if n > l.length - s then none else some ((l.drop s).take n, s + n)

/-- What a cut tells. -/
def CutRet (o : Option (List Nat × Nat)) (w : World) (e : Ending) (w' : World) : Prop :=
  Below w.heap.size w w' ∧ match o with
  | none => e = .returned (.tuple #[.slice none 0 0, .int .i64 0, .bool false])
  | some (p, s) => ∃ v, e = .returned (.tuple #[v, .int .i64 (s : Nat), .bool true]) ∧ RdB w' v p
/-- .. and what it tells is its own. -/
def CutOwn (o : Option (List Nat × Nat)) (w : World) (e : Ending) (w' : World) : Prop :=
  Below w.heap.size w w' ∧ w.heap.size ≤ w'.heap.size ∧ match o with
  | none => e = .returned (.tuple #[.slice none 0 0, .int .i64 0, .bool false])
  | some (p, s) => ∃ v, e = .returned (.tuple #[v, .int .i64 (s : Nat), .bool true]) ∧ OwnB w.heap.size v (BsM p) w'

theorem takeL_le {l : List Nat} {n s : Nat} (h : takeL l = some (n, s)) : s ≤ l.length ∧ n ≤ 4611686018427387904 ∧ 1 ≤ s := by
  by_cases hl : l = []
  · simp [takeL, hl] at h
  by_cases h9 : toldN (l.getD 0 0) > 9 ∨ toldN (l.getD 0 0) > l.length
  · simp only [takeL, if_neg hl, if_pos h9] at h; exact absurd h (by simp)
  simp only [takeL, if_neg hl, if_neg h9] at h
  obtain ⟨u, hu⟩ : ∃ u, u = if toldN (l.getD 0 0) > 4 then valL ((l.take (toldN (l.getD 0 0))).drop 1) else valL (l.take (toldN (l.getD 0 0))) / 4 := ⟨_, rfl⟩
  rw [← hu] at h
  by_cases hc : u > 4611686018427387904 ∨ sizeN u ≠ toldN (l.getD 0 0)
  · rw [if_pos hc] at h; exact absurd h (by simp)
  rw [if_neg hc] at h
  have := toldN_pos (l.getD 0 0)
  injection h with h
  injection h with h1 h2
  obtain ⟨z, hz⟩ : ∃ z, z = toldN (l.getD 0 0) := ⟨_, rfl⟩
  rw [← hz] at h9 h2 this
  omega

theorem rd_drop {w : World} {a : Addr} {cap n : Nat} {l : List Nat} (h : RdB w (.slice (some a) n cap) l) {s k : Nat} (hk : s + k ≤ n) (hs : a.spot = none) : RdB w (.slice (some ⟨a.block, a.off + s, none⟩) k (cap - s)) ((l.drop s).take k) := by
  rcases h with ⟨h1, h2⟩ | ⟨a', cap', h1, hc, hcell⟩
  · cases h1
  · injection h1 with h1 h2 h3
    injection h1 with h1
    subst h1 h2 h3
    have hlen : ((l.drop s).take k).length = k := by simp; omega
    obtain ⟨b, o, sp⟩ := a
    simp only at hs; subst hs
    refine .inr ⟨⟨b, o + s, none⟩, cap - s, by rw [hlen], by rw [hlen]; omega, fun i hi => ?_⟩
    rw [hlen] at hi
    have := hcell (s + i) (by omega)
    rw [add_at] at this ⊢
    rw [show o + s + i = o + (s + i) by omega, this]
    simp only [List.getD_eq_getElem?_getD, List.getElem?_take, List.getElem?_drop]
    rw [if_pos hi]

set_option maxHeartbeats 1000000 in
theorem compact_Cut (v : Value) (l : List Nat) (w : World) (h : RdB w v l) (hb : ∀ b ∈ l, b < 256) (hm : l.length ≤ 1000000000) :
    Calls Tryz.prog 125 #[v] w (CutOwn (cutL l) w) := by
  have HB := Lib.hid hb
  have HR : Hid (RdB w v l) := Lib.hid h
  cases ht : takeL l with
  | none =>
    have hc : cutL l = none := by unfold cutL; rw [ht]
    rw [hc]
    have HT := Lib.hid ht
    obtain ⟨ao, cap, rfl⟩ := h.lenOf
    clear h hb hc ht
    go_enter Tryz.func125, Tryz.ntmps125
    go_wp2_with (first | (go_at_call 189; refine (compact_Take _ _ _ HR.out HB.out).mono ?_; rw [HT.out]; rintro e w' ⟨rfl, rfl⟩; simp only [takeV]) | fail)
    go_ret3
    exact ⟨Below.refl _ _, Nat.le_refl _, rfl⟩
  | some x =>
    obtain ⟨n, s⟩ := x
    obtain ⟨hs, hn, hs1⟩ := takeL_le ht
    have hc : cutL l = if n > l.length - s then none else some ((l.drop s).take n, s + n) := by unfold cutL; rw [ht]
    rw [hc]
    clear hc
    have HT := Lib.hid ht
    clear ht
    rcases h with ⟨-, h⟩ | ⟨⟨blk, off, spot⟩, cap, rfl, hcap, hcell⟩
    · subst h; simp at hs; omega
    have hspot : spot = none := by
      have := World.cell?_spot (hcell 0 (by omega)); simpa [Addr.add] using this
    subst hspot
    clear hcell hb
    by_cases hgt : n > l.length - s
    · rw [if_pos hgt]
      have g1 : decide ((l.length : Int) - (s : Int) < (n : Int)) = true := by simp; omega
      go_enter Tryz.func125, Tryz.ntmps125
      go_wp2_with (first | (go_at_call 189; refine (compact_Take _ _ _ HR.out HB.out).mono ?_; rw [HT.out]; rintro e w' ⟨rfl, rfl⟩; simp only [takeV]) | fail)
      go_ret3
      exact ⟨Below.refl _ _, Nat.le_refl _, rfl⟩
    · rw [if_neg hgt]
      have g1 : decide ((l.length : Int) - (s : Int) < (n : Int)) = false := by simp; omega
      have hx1 : (s : Int) + (n : Int) ≤ (cap : Int) := by omega
      have hx2 : ((s : Int) + (n : Int)).toNat = s + n := by omega
      have hx3 : s + n - s = n := by omega
      have hlen : ((l.drop s).take n).length = n := by simp; omega
      have HL := Lib.hid hlen
      clear hlen
      by_cases hcs : s = cap
      · subst hcs
        obtain rfl : n = 0 := by omega
        have hrd : RdB w (.slice (some ⟨blk, off, none⟩) 0 (s - s)) ((l.drop s).take 0) := .inr ⟨_, _, rfl, by simp, fun i hi => by simp at hi⟩
        rw [Nat.sub_self] at hrd
        have HRD := Lib.hid hrd
        clear hrd
        go_enter Tryz.func125, Tryz.ntmps125
        go_wp2_with (first | (go_at_call 189; refine (compact_Take _ _ _ HR.out HB.out).mono ?_; rw [HT.out]; rintro e w' ⟨rfl, rfl⟩; simp only [takeV]) | (go_at_call 121; refine (bytes_Clone _ _ _ HRD.out (by rw [HL.out]; omega)).mono ?_; rintro e w1 ⟨v1, rfl, ho1, hb1, hs1⟩) | fail)
        go_ret3
        exact ⟨hb1, hs1, v1, rfl, ho1⟩
      · have hrd := rd_drop HR.out (s := s) (k := n) (by omega) rfl
        have HRD := Lib.hid hrd
        have hcs' : (cap = s) = False := by simp; omega
        clear hrd
        go_enter Tryz.func125, Tryz.ntmps125
        go_wp2_with (first | (go_at_call 189; refine (compact_Take _ _ _ HR.out HB.out).mono ?_; rw [HT.out]; rintro e w' ⟨rfl, rfl⟩; simp only [takeV]) | (go_at_call 121; refine (bytes_Clone _ _ _ HRD.out (by rw [HL.out]; omega)).mono ?_; rintro e w1 ⟨v1, rfl, ho1, hb1, hs1⟩) | fail)
        go_ret3
        exact ⟨hb1, hs1, v1, rfl, ho1⟩

set_option maxHeartbeats 1000000 in
theorem ref_Cut (v : Value) (l : List Nat) (w : World) (h : RdB w v l) (hb : ∀ b ∈ l, b < 256) (hm : l.length ≤ 1000000000) :
    Calls Tryz.prog 120 #[v] w (CutRet (cutL l) w) := by
  have HB := Lib.hid hb
  have HR : Hid (RdB w v l) := Lib.hid h
  cases ht : takeL l with
  | none =>
    have hc : cutL l = none := by unfold cutL; rw [ht]
    rw [hc]
    have HT := Lib.hid ht
    obtain ⟨ao, cap, rfl⟩ := h.lenOf
    clear h hb hc ht
    go_enter Tryz.func120, Tryz.ntmps120
    go_wp2_with (first | (go_at_call 185; refine (ref_Take _ _ _ HR.out HB.out).mono ?_; rw [HT.out]; rintro e w' ⟨rfl, hb1⟩; simp only [takeV]) | fail)
    go_ret3
    exact ⟨hb1, rfl⟩
  | some x =>
    obtain ⟨n, s⟩ := x
    obtain ⟨hs, hn, hs1⟩ := takeL_le ht
    have hc : cutL l = if n > l.length - s then none else some ((l.drop s).take n, s + n) := by unfold cutL; rw [ht]
    rw [hc]
    clear hc
    have HT := Lib.hid ht
    clear ht
    rcases h with ⟨-, h⟩ | ⟨⟨blk, off, spot⟩, cap, rfl, hcap, hcell⟩
    · subst h; simp at hs; omega
    have hspot : spot = none := by
      have := World.cell?_spot (hcell 0 (by omega)); simpa [Addr.add] using this
    subst hspot
    clear hcell hb
    by_cases hgt : n > l.length - s
    · rw [if_pos hgt]
      have g1 : decide ((l.length : Int) - (s : Int) < (n : Int)) = true := by simp; omega
      go_enter Tryz.func120, Tryz.ntmps120
      go_wp2_with (first | (go_at_call 185; refine (ref_Take _ _ _ HR.out HB.out).mono ?_; rw [HT.out]; rintro e w' ⟨rfl, hb1⟩; simp only [takeV]) | fail)
      go_ret3
      exact ⟨hb1, rfl⟩
    · rw [if_neg hgt]
      have g1 : decide ((l.length : Int) - (s : Int) < (n : Int)) = false := by simp; omega
      have hx1 : (s : Int) + (n : Int) ≤ (cap : Int) := by omega
      have hx2 : ((s : Int) + (n : Int)).toNat = s + n := by omega
      have hx3 : s + n - s = n := by omega
      have hlen : ((l.drop s).take n).length = n := by simp; omega
      have HL := Lib.hid hlen
      clear hlen
      by_cases hcs : s = cap
      · subst hcs
        obtain rfl : n = 0 := by omega
        have hrd : ∀ w, RdB w (.slice (some ⟨blk, off, none⟩) 0 0) ((l.drop s).take 0) := fun w => .inr ⟨_, _, rfl, by simp, fun i hi => by simp at hi⟩
        have HRD := Lib.hid hrd
        clear hrd
        go_enter Tryz.func120, Tryz.ntmps120
        go_wp2_with (first | (go_at_call 185; refine (ref_Take _ _ _ HR.out HB.out).mono ?_; rw [HT.out]; rintro e w' ⟨rfl, hb1⟩; simp only [takeV]) | fail)
        go_ret3
        exact ⟨hb1, _, rfl, HRD.out _⟩
      · have hrd := rd_drop HR.out (s := s) (k := n) (by omega) rfl
        have HRD := Lib.hid hrd
        have hcs' : (cap = s) = False := by simp; omega
        clear hrd
        go_enter Tryz.func120, Tryz.ntmps120
        go_wp2_with (first | (go_at_call 185; refine (ref_Take _ _ _ HR.out HB.out).mono ?_; rw [HT.out]; rintro e w' ⟨rfl, hb1⟩; simp only [takeV]) | fail)
        go_ret3
        exact ⟨hb1, _, rfl, HRD.out.below hb1⟩

end Go.Proofs.YteioacpfphigjaaGreatDoor
end

section
namespace Go.Proofs.YteioacpfphigjaaGreatDoor
open Go.RowKit Go.Shelf
attribute [local go_sem] Oper.semAt_some
set_option linter.unusedVariables false

/-- The numbers that bytes tell, one behind the other. -/
def numsF : Nat → List Nat → List Nat
  | 0, _ => []
  | k + 1, l => match takeL l with
    | none => []
    | some (n, s) => n :: numsF k (l.drop s)

theorem takeL_pos {l : List Nat} {n s : Nat} (h : takeL l = some (n, s)) : 1 ≤ s ∧ s ≤ l.length := ⟨(takeL_le h).2.2, (takeL_le h).1⟩

theorem numsF_fuel : ∀ (k j : Nat) (l : List Nat), l.length < k → l.length < j → numsF k l = numsF j l
  | 0, _, _, h, _ => by omega
  | _, 0, _, _, h => by omega
  | k + 1, j + 1, l, h1, h2 => by
    simp only [numsF]
    cases ht : takeL l with
    | none => rfl
    | some x =>
      obtain ⟨n, s⟩ := x
      have := takeL_pos ht
      simp only
      rw [numsF_fuel k j (l.drop s) (by rw [List.length_drop]; omega) (by rw [List.length_drop]; omega)]
def numsOf (l : List Nat) : List Nat := numsF (l.length + 1) l
theorem numsOf_none {l : List Nat} (h : takeL l = none) : numsOf l = [] := by simp [numsOf, numsF, h]
theorem numsOf_some {l : List Nat} {n s : Nat} (h : takeL l = some (n, s)) : numsOf l = n :: numsOf (l.drop s) := by
  have hp := takeL_pos h
  unfold numsOf
  rw [show numsF (l.length + 1) l = n :: numsF l.length (l.drop s) by simp only [numsF, h], numsF_fuel _ ((l.drop s).length + 1) (l.drop s) (by rw [List.length_drop]; omega) (by omega)]

theorem RdB.on {w W : World} {ao : Option Addr} {k cap : Nat} {l : List Nat} (h : RdB w (.slice ao k cap) l) (hb : ∀ a, ao = some a → l ≠ [] → W.heap[a.block]? = w.heap[a.block]?) : RdB W (.slice ao k cap) l := by
  rcases h with h | ⟨a, cap', hv, hc, hcell⟩
  · exact .inl h
  · injection hv with h1 h2 h3
    subst h1 h2 h3
    refine .inr ⟨a, cap, rfl, hc, fun i hi => ?_⟩
    have : (a.add i).block = a.block := by unfold Addr.add; split <;> rfl
    rw [World.cell?_of_block (w := w) (by rw [this]; exact hb a rfl (by intro e; rw [e] at hi; simp at hi))]; exact hcell i hi

/-- A slice's length. -/
def lenV : Value → Nat
  | .slice _ n _ => n
  | _ => 0

theorem pre_snocM {pre rest xs : List Nat} {x : Nat} (h : xs = pre ++ (x :: rest)) : (pre ++ [x]) <+: xs := ⟨rest, by rw [h]; simp⟩

end Go.Proofs.YteioacpfphigjaaGreatDoor
end

section
namespace Go.Proofs.YteioacpfphigjaaGreatDoor
open Go.RowKit Go.Shelf
attribute [local go_sem] Oper.semAt_some
set_option linter.unusedVariables false

theorem RoundIn.inAnyM {n m l lp : Nat} {P : Program} {fn : FuncId} {tm : Array Value} {asg bd : Code} {W : World} {R : Ending → World → Prop} (h : RoundIn Fence.wide n P lp fn tm asg bd W R) : RoundIn (Fence.wide.inRound l) m P lp fn tm asg bd W R :=
  ⟨trivial, fun c cs _ => h.2 c cs (room_wide _)⟩

theorem zip_snoc (pre : List Nat) (x : Nat) : (pre ++ [x]).zipIdx = pre.zipIdx ++ [(x, pre.length)] := by simp [List.zipIdx_append]
theorem zip_prefix {pre xs : List Nat} (h : pre <+: xs) : pre.zipIdx <+: xs.zipIdx := by
  obtain ⟨t, rfl⟩ := h
  rw [List.zipIdx_append]
  exact ⟨_, rfl⟩

/-- What the loop within holds. -/
def PlacedI (Ψ Φ0 : FP) (W : World) (yv : Value) (J : List (Nat × Nat) → FP → World → Prop) (pre : List Nat) (Φ : FP) (W' : World) : Prop :=
  ∃ Φo, J pre.zipIdx Φo W' ∧ (∀ k, Φo k → Φ0 k ∨ W.heap.size + 2 ≤ k) ∧ (∀ k, Φ k ↔ Φo k ∧ W.heap.size + 2 ≤ k) ∧ Boxed W' W.heap.size 60 yv ∧ Boxed W' (W.heap.size + 1) 3 (.int .i64 (pre.length : Nat)) ∧ W.heap.size + 2 ≤ W'.heap.size

theorem PlacedI.stab {B : Nat} {Ψ Φ0 : FP} {W : World} {yv : Value} {J : List (Nat × Nat) → FP → World → Prop} (hJ : Stab B J) (hB : B ≤ W.heap.size) : Stab (W.heap.size + 2) (PlacedI Ψ Φ0 W yv J) := by
  rintro pre Φ W' ⟨Φo, hj, ho, hi, hy, hc, hs⟩
  obtain ⟨h1, h2, h3⟩ := hJ _ _ _ hj
  refine ⟨fun k hk => ⟨((hi k).1 hk).2, (h1 k ((hi k).1 hk).1).2⟩, hs, fun W'' hg hk => ⟨Φo, h3 W'' hg (fun k hk' => ?_), ho, hi, (hk _ (.inl (by omega))).trans hy, (hk _ (.inl (by omega))).trans hc, Nat.le_trans hs hg.size⟩⟩
  rcases hk' with h | h
  · exact hk k (.inl (by omega))
  · by_cases hb : k < W.heap.size + 2
    · exact hk k (.inl hb)
    · exact hk k (.inr ((hi k).2 ⟨h, by omega⟩))

/-- .. where it was left. -/
def PlacedX (Φ0 : FP) (W : World) (J : List (Nat × Nat) → FP → World → Prop) (c : Code) (pre : List Nat) (Φ : FP) (W' : World) : Prop :=
  c = .ret ∧ ∃ Φo, J pre.zipIdx Φo W' ∧ (∀ k, Φo k → Φ0 k ∨ W.heap.size + 2 ≤ k) ∧ (∀ k, Φ k ↔ Φo k ∧ W.heap.size + 2 ≤ k) ∧ W.heap.size + 2 ≤ W'.heap.size
theorem PlacedX.stab {B : Nat} {Φ0 : FP} {W : World} {J : List (Nat × Nat) → FP → World → Prop} (hJ : Stab B J) (hB : B ≤ W.heap.size) (c : Code) : Stab (W.heap.size + 2) (PlacedX Φ0 W J c) := by
  rintro pre Φ W' ⟨hcc, Φo, hj, ho, hi, hs⟩
  obtain ⟨h1, h2, h3⟩ := hJ _ _ _ hj
  refine ⟨fun k hk => ⟨((hi k).1 hk).2, (h1 k ((hi k).1 hk).1).2⟩, hs, fun W'' hg hk => ⟨hcc, Φo, h3 W'' hg (fun k hk' => ?_), ho, hi, Nat.le_trans hs hg.size⟩⟩
  rcases hk' with h | h
  · exact hk k (.inl (by omega))
  · by_cases hb : k < W.heap.size + 2
    · exact hk k (.inl hb)
    · exact hk k (.inr ((hi k).2 ⟨h, by omega⟩))

end Go.Proofs.YteioacpfphigjaaGreatDoor
end

section
namespace Go.Proofs.YteioacpfphigjaaGreatDoor
open Go.RowKit Go.Shelf
set_option linter.unusedVariables false

theorem numsF_le : ∀ (k : Nat) (l : List Nat), (numsF k l).length ≤ l.length
  | 0, l => by simp [numsF]
  | k + 1, l => by
    simp only [numsF]
    cases h : takeL l with
    | none => simp
    | some x =>
      obtain ⟨n, s⟩ := x
      have h1 := takeL_pos h
      have h2 := numsF_le k (l.drop s)
      rw [List.length_drop] at h2
      simp only [List.length_cons]; omega
theorem numsOf_le (l : List Nat) : (numsOf l).length ≤ l.length := numsF_le _ l

end Go.Proofs.YteioacpfphigjaaGreatDoor
end

section
namespace Go.Proofs.YteioacpfphigjaaGreatDoor
open Go.RowKit Go.Shelf
attribute [local go_sem] Oper.semAt_some
set_option linter.unusedVariables false

theorem info3 : (Tryz.prog.info? 3).map (fun i => (i.zero, i.size, i.bytes)) = some (some (.int .i64 0), 1, 8) := by kernel_rfl

/-- Integers as cells. -/
def IsM (l : List Nat) : List Value := l.map fun (n : Nat) => .int .i64 (n : Int)

/-- A slice of integers that is owned from B on. -/
def OwnM (B : Nat) (v : Value) (l : List Nat) (w : World) : Prop := w.ownsRow B 3 1 v l.length (IsM l)

theorem run_seq2_nil (f : Fn) (lb : Array Value) (w : World) : (binOp .eql 91 (.func f #[] lb) .nilFunc).run Tryz.prog w = .ok (.bool false) w := by kernel_rfl
attribute [local go_sem] run_seq2_nil

/-- What the loop has collected. -/
def CollI (S b : Nat) (pre : List (Nat × Nat)) (Φ : FP) (W : World) : Prop :=
  ∃ v, Boxed W b 22 v ∧ OwnM S v (pre.map Prod.fst) W ∧ (∀ k, Φ k ↔ v.ownBlock = some k) ∧ S ≤ W.heap.size

theorem CollI.stab {S b : Nat} (hb : b < S) : Stab S (CollI S b) := by
  rintro pre Φ W ⟨v, hx, ho, hi, hs⟩
  refine ⟨fun k hk => World.ownsRow.lt ho k ((hi k).1 hk), hs, fun W' hg hk => ⟨v, (hk b (.inl hb)).trans hx, ?_, hi, Nat.le_trans hs hg.size⟩⟩
  refine ⟨ho.1, ?_⟩
  rcases ho.2 with h | ⟨g, cap, cur, h1, h2, h3, h4⟩
  · exact .inl h
  · exact .inr ⟨g, cap, cur, h1, h2, (hk g (.inr ((hi g).2 (by rw [h1]; rfl)))).trans h3, h4⟩

theorem zip_at {xs : List Nat} {pre : List (Nat × Nat)} {x : Nat × Nat} (h : (pre ++ [x]) <+: xs.zipIdx) : x.2 = pre.length ∧ pre.length < xs.length := by
  obtain ⟨t, h⟩ := h
  have hl := congrArg List.length h
  simp at hl
  have hx : xs.zipIdx[pre.length]? = some x := by rw [← h]; simp
  rw [List.getElem?_zipIdx] at hx
  have hlt : pre.length < xs.length := by omega
  rw [List.getElem?_eq_getElem hlt] at hx
  simp at hx
  rw [← hx]
  exact ⟨by simp, hlt⟩
theorem OwnM.lenOf {S : Nat} {v : Value} {l : List Nat} {w : World} (h : OwnM S v l w) : ∃ ao cap, v = .slice ao l.length cap := by
  rcases h.2 with ⟨rfl, h0⟩ | ⟨g, cap, cur, rfl, -⟩
  · exact ⟨none, 0, by rw [h0]⟩
  · exact ⟨_, cap, rfl⟩
theorem OwnM.of {S S' : Nat} {v : Value} {l : List Nat} {w w' : World} (h : OwnM S v l w) (hS : S' ≤ S) (hk : ∀ k, v.ownBlock = some k → w'.heap[k]? = w.heap[k]?) : OwnM S' v l w' := by
  refine ⟨h.1, ?_⟩
  rcases h.2 with h | ⟨g, cap, cur, h1, h2, h3, h4⟩
  · exact .inl h
  · exact .inr ⟨g, cap, cur, h1, Nat.le_trans hS h2, (hk g (by rw [h1]; rfl)).trans h3, h4⟩

theorem own_snoc {S : Nat} {v' : Value} {pre : List (Nat × Nat)} {q i : Nat} {w : World} (h : w.ownsRow S 3 1 v' ((pre.map Prod.fst).length + 1) (IsM (pre.map Prod.fst) ++ [.int .i64 (q : Nat)])) : OwnM S v' ((pre ++ [(q, i)]).map Prod.fst) w := by
  unfold OwnM
  have e : IsM ((pre ++ [(q, i)]).map Prod.fst) = IsM (pre.map Prod.fst) ++ [.int .i64 (q : Nat)] := by simp [IsM]
  have e2 : ((pre ++ [(q, i)]).map Prod.fst).length = (pre.map Prod.fst).length + 1 := by simp
  rw [e, e2]; exact h

/-- What comes back: all numbers, in new memory. -/
def NumsGot (l : List Nat) (w : World) (e : Ending) (w' : World) : Prop :=
  ∃ v, e = .returned (.tuple #[v, .bool true]) ∧ OwnM w.heap.size v (numsOf l) w' ∧ Below w.heap.size w w'

end Go.Proofs.YteioacpfphigjaaGreatDoor
end

section
namespace Go.Proofs.YteioacpfphigjaaGreatDoor
open Go.RowKit
set_option linter.unusedVariables false
set_option linter.unusedSimpArgs false

theorem rowL_take {p : List Nat} (hp : p.length ≤ 4611686018427387904) (t : List Nat) : takeL (rowL p ++ t) = some (p.length, sizeN p.length) := by
  unfold rowL; rw [List.append_assoc, takeL_num hp]
theorem cutL_row {p : List Nat} (hp : p.length ≤ 4611686018427387904) (t : List Nat) : cutL (rowL p ++ t) = some (p, (rowL p).length) := by
  unfold cutL
  rw [rowL_take hp]
  have hl := numL_size p.length
  have hle : ¬ (p.length > (rowL p ++ t).length - sizeN p.length) := by simp only [rowL, List.length_append]; omega
  simp only [if_neg hle, Option.some.injEq, Prod.mk.injEq]
  refine ⟨?_, by simp only [rowL, List.length_append]; omega⟩
  unfold rowL
  rw [List.append_assoc, ← hl, List.drop_left, List.take_left]

/-- Bytes behind a place of what reads as bytes. -/
theorem rd_behind {w : World} {g cap s : Nat} {a b : List Nat} (h : RdB w (.slice (some ⟨g, 0, none⟩) (a ++ b).length cap) (a ++ b)) (hs : s = a.length) : RdB w (.slice (some ⟨g, s, none⟩) b.length (cap - s)) b := by
  subst hs
  have := rd_drop h (s := a.length) (k := b.length) (by rw [List.length_append]; exact Nat.le_refl _) rfl
  simpa using this

theorem rdBB_one {w : World} {u : Value} {p : List Nat} {t : TypeId} (h : RdB w u p) : RdBB (w.alloc (.cells #[u] t)) (.slice (some ⟨w.heap.size, 0, none⟩) 1 1) [p] :=
  .inr ⟨_, 1, rfl, Nat.le_refl _, fun i hi => by
    have : i = 0 := by simp at hi; omega
    subst this
    exact ⟨u, by rw [add_at, World.cell?_alloc_new]; rfl, h.below ((Below.refl _ _).alloc (Nat.le_refl _) _)⟩⟩

theorem strN_size (l : List Nat) : (strN l).size = l.length := by simp [strN, ByteArray.size]
theorem strN_append (a b : List Nat) : strN a ++ strN b = strN (a ++ b) := by
  apply ByteArray.ext
  simp [strN, ByteArray.data_append]

end Go.Proofs.YteioacpfphigjaaGreatDoor
end

section
namespace Go.Proofs.YteioacpfphigjaaGreatDoor
open Go.ChangeShapes Go.WideShapes Go.ChangeAt Go.RowKit Go.Deep
set_option linter.unusedVariables false

section
variable {H : Type} {enc : TypeId × Value → H} {P : Program} {w : World} {base : Nat} {held : Bool}

theorem bulk_one (d : DataW H) : 1 ≤ Rows.uptoBulk d := by
  cases d with
  | lit l => cases l <;> simp [Rows.uptoBulk]
  | nil => simp [Rows.uptoBulk]
  | ptr d => simp [Rows.uptoBulk]
  | slice elems spare => simp [Rows.uptoBulk]
  | agg parts => simp [Rows.uptoBulk]
  | iface t d => simp [Rows.uptoBulk]
  | map entries => simp [Rows.uptoBulk]
  | held h => simp [Rows.uptoBulk]
theorem bulk_length (l : List (DataW H)) : l.length ≤ Rows.uptoBulkAll l := by
  induction l with
  | nil => simp [Rows.uptoBulkAll]
  | cons x r ih => have := bulk_one x; simp only [Rows.uptoBulkAll, List.length_cons]; omega
theorem bulk_part {d : DataW H} {l : List (DataW H)} (h : d ∈ l) : Rows.uptoBulk d ≤ Rows.uptoBulkAll l := by
  induction l with
  | nil => cases h
  | cons x r ih =>
    simp only [Rows.uptoBulkAll]
    cases List.mem_cons.1 h with
    | inl e => subst e; omega
    | inr e => have := ih e; omega
theorem bulk_bound {l : List (DataW H)} (hk : Rows.uptoSmall H l = true) : Rows.uptoBulkAll l ≤ 1048576 := of_decide_eq_true hk

theorem open_RdI0u {t e : TypeId} {k : IntKind} {v : Value} {x : DataW H × List MemPlace} {fuel : Nat} (ht : P.underlying t = some (.slice e)) (he : P.underlying e = some (.int k)) (hc : P.cellsOf e = 1)
    (hf : DataW.trod enc P w base (fun _ => true) held fuel t [v] = some x) : (v = .slice none 0 0) ∨
      ∃ (a : Addr) (len cap : Nat) (zs : List Int), v = .slice (some a) len cap ∧ len ≤ cap ∧ cap ≤ maxLen ∧ zs.length = cap ∧ (∀ i, i < cap → w.cell? (a.add i) = some (.int k (zs.getD i 0))) ∧ (∀ n ∈ zs, (Lit.int k n).wf = true) ∧ 1 + len ≤ Rows.uptoBulk x.1 := by
  rcases open_ints ht he hc hf with ⟨hcs, -⟩ | ⟨a, len, cap, zs, hcs, hb, hl, hm, hz, hx, hcell, hwz⟩
  · exact .inl (by simpa using hcs)
  · simp only [if_true] at hz
    refine .inr ⟨a, len, cap, zs, by simpa using hcs, hl, hm, hz, fun i hi => hcell i (by omega), hwz, ?_⟩
    rw [hx]
    have h1 := bulk_length (H := H) (lits k (zs.take len))
    simp only [Rows.uptoBulk]
    have h2 : (lits (H := H) k (zs.take len)).length = len := by simp [lits]; omega
    omega

/-- How much rows are: each with one more. -/
def longL : List (List Nat) → Nat
  | [] => 0
  | p :: l => 1 + p.length + longL l

theorem bulk_rows (L : Nat → List Nat) (D : Nat → DataW H) (len : Nat) (h : ∀ i, i < len → 1 + (L i).length ≤ Rows.uptoBulk (D i)) : longL ((List.range len).map L) ≤ Rows.uptoBulkAll ((List.range len).map D) := by
  have key : ∀ (l : List Nat), (∀ i ∈ l, i < len) → longL (l.map L) ≤ Rows.uptoBulkAll (l.map D) := by
    intro l
    induction l with
    | nil => intro _; simp [longL]
    | cons i l ih =>
      intro hl
      have h1 := h i (hl i (by simp))
      have h2 := ih (fun j hj => hl j (by simp [hj]))
      simp only [List.map_cons, longL, Rows.uptoBulkAll]; omega
  exact key _ (fun i hi => by simpa using hi)

theorem open_RdBBu {t e q : TypeId} {v : Value} {d : DataW H} {p : List MemPlace} {r : Reach} {b0 : Nat} (ht : P.underlying t = some (.slice e)) (he : P.underlying e = some (.slice q)) (hq : P.underlying q = some (.int .u8)) (ce : P.cellsOf e = 1) (cq : P.cellsOf q = 1)
    (hv : Value.okWide P w r b0 t v) (h : DataW.Trod enc P w base (fun _ => true) held t v d p) : ∃ l : List (List Nat), RdBB w v l ∧ (∀ x ∈ l, ∀ b ∈ x, b < 256) ∧ longL l ≤ Rows.uptoBulk d := by
  obtain ⟨fuel, hf⟩ := h
  rw [cells_slice ht hv] at hf
  rcases open_slice1 ht ce hf with ⟨hcs, -⟩ | ⟨a, len, cap, m, n, V, D, Pl, hcs, hb, hl, hm, hmm, hdx, hx⟩
  · have : v = .slice none 0 0 := by simpa using hcs
    subst this
    exact ⟨[], .inl ⟨rfl, rfl⟩, by simp, by simp [longL]⟩
  · simp only [if_true] at hmm
    have hmm' := hmm.symm
    subst hmm'
    have hvv : v = .slice (some a) len cap := by simpa using hcs
    subst hvv
    have each : ∀ i, i < cap → ∃ l : List Nat, RdB w (V i) l ∧ (∀ b ∈ l, b < 256) ∧ 1 + l.length ≤ Rows.uptoBulk (D i) := by
      intro i hi
      rcases open_RdI0u he hq cq (hx i hi).2 with h0 | ⟨a', len', cap', zs, h0, hl', hm', hz, hcell, hw, hbk⟩
      · exact ⟨[], .inl ⟨h0, rfl⟩, by simp, by have := bulk_one (D i); simpa using this⟩
      · obtain ⟨l, h1, h2, h3⟩ := RdB_of hl' hm' hz hcell hw
        exact ⟨l, by rw [h0]; exact h2, h3, by rw [h1]; exact hbk⟩
    obtain ⟨L, hL⟩ := choose_lt each
    have hlen : ((List.range len).map L).length = len := by simp
    refine ⟨(List.range len).map L, .inr ⟨a, cap, by rw [hlen], by rw [hlen]; exact hl, fun i hi => ?_⟩, fun x hx => ?_, ?_⟩
    · rw [hlen] at hi
      refine ⟨V i, (hx i (by omega)).1, ?_⟩
      have : ((List.range len).map L).getD i [] = L i := by simp [hi]
      rw [this]; exact (hL i (by omega)).1
    · simp only [List.mem_map, List.mem_range] at hx
      obtain ⟨i, hi, rfl⟩ := hx
      exact (hL i (by omega)).2.1
    · have h1 := bulk_rows L D len (fun i hi => (hL i (by omega)).2.2)
      have hd : d = .slice ((List.range len).map D) _ := congrArg Prod.fst hdx
      rw [hd]
      simp only [Rows.uptoBulk]; omega
end
end Go.Proofs.YteioacpfphigjaaGreatDoor
end

section
namespace Go.Proofs.YteioacpfphigjaaGreatDoor
open Go.RowKit
set_option linter.unusedVariables false
set_option linter.unusedSimpArgs false

theorem longL_snoc (l : List (List Nat)) (p : List Nat) : longL (l ++ [p]) = longL l + (1 + p.length) := by
  induction l with
  | nil => simp [longL]
  | cons a l ih => simp only [List.cons_append, longL, ih]; omega
theorem longL_take (l : List (List Nat)) (k : Nat) : longL (l.take k) ≤ longL l := by
  induction l generalizing k with
  | nil => simp [longL]
  | cons p l ih =>
    cases k with
    | zero => simp [longL]
    | succ k => have := ih k; simp only [List.take_succ_cons, longL]; omega
theorem longL_length (l : List (List Nat)) : l.length ≤ longL l := by
  induction l with
  | nil => simp
  | cons p l ih => simp only [List.length_cons, longL]; omega
theorem longL_bulk (l : List (List Nat)) : bulkL l ≤ 9 * longL l := by
  induction l with
  | nil => simp [bulkL]
  | cons p l ih => simp only [bulkL, longL]; omega

/-- A row of rows at a place. -/
theorem RdBB.at {w : World} {ao : Option Addr} {cap n : Nat} {l : List (List Nat)} (h : RdBB w (.slice ao n cap) l) {j : Nat} (hj : j < l.length) :
    ∃ blk off ao2 cap2, ao = some ⟨blk, off, none⟩ ∧ n = l.length ∧ l.length ≤ cap ∧ blk < w.heap.size ∧ w.cell? ⟨blk, off + j, none⟩ = some (.slice ao2 (l.getD j []).length cap2) ∧ RdB w (.slice ao2 (l.getD j []).length cap2) (l.getD j []) := by
  rcases h with ⟨-, h2⟩ | ⟨a, cap', h1, hc, hcell⟩
  · subst h2; simp at hj
  · injection h1 with h1 h2 h3
    subst h1 h2 h3
    obtain ⟨u, hu, hr⟩ := hcell j hj
    obtain ⟨u0, hu0, -⟩ := hcell 0 (by omega)
    have hsp := World.cell?_spot hu0
    have hb := cell_block hu
    obtain ⟨blk, off, spot⟩ := a
    have hspot : spot = none := by simpa [Addr.add] using hsp
    subst hspot
    rw [add_at] at hu
    obtain ⟨ao2, cap2, hv⟩ := hr.lenOf
    rw [hv] at hu hr
    exact ⟨blk, off, ao2, cap2, rfl, rfl, hc, hb, hu, hr⟩
theorem RdBB.lenOf {w : World} {v : Value} {l : List (List Nat)} (h : RdBB w v l) : ∃ ao cap, v = .slice ao l.length cap := by
  rcases h with ⟨rfl, rfl⟩ | ⟨a, cap, rfl, -⟩
  · exact ⟨_, _, rfl⟩
  · exact ⟨_, _, rfl⟩
theorem RdIM.lenOf {w : World} {v : Value} {l : List Int} (h : RdIM w v l) : ∃ ao cap, v = .slice ao l.length cap := by
  rcases h with ⟨rfl, rfl⟩ | ⟨a, cap, rfl, -⟩
  · exact ⟨_, _, rfl⟩
  · exact ⟨_, _, rfl⟩

theorem numsL_lt (l : List Int) : ∀ c ∈ numsL l, c < 256 := by
  induction l with
  | nil => simp [numsL]
  | cons a l ih =>
    intro c hc
    rw [numsL, List.mem_append] at hc
    exact hc.elim (numL_lt _ c) (ih c)
theorem rowsL_lt (l : List (List Nat)) (h : ∀ y ∈ l, ∀ c ∈ y, c < 256) : ∀ c ∈ rowsL l, c < 256 := by
  induction l with
  | nil => simp [rowsL]
  | cons a l ih =>
    intro c hc
    rw [rowsL, List.mem_append] at hc
    exact hc.elim (rowL_lt a (h a (by simp)) c) (ih (fun y hy => h y (by simp [hy])) c)
theorem cutL_lt {b q : List Nat} {k : Nat} (hb : ∀ c ∈ b, c < 256) (h : cutL b = some (q, k)) : ∀ c ∈ q, c < 256 := by
  unfold cutL at h
  split at h
  · cases h
  · split at h
    · cases h
    · injection h with h
      injection h with h1 h2
      rw [← h1]
      exact fun c hc => hb c (List.mem_of_mem_drop (List.mem_of_mem_take hc))

end Go.Proofs.YteioacpfphigjaaGreatDoor
end

section
namespace Go.Proofs.YteioacpfphigjaaGreatDoor
open Go.RowKit Go.Shelf
attribute [local go_sem] Oper.semAt_some
set_option linter.unusedVariables false

/-- The rows that bytes tell, one behind the other. -/
def rowsF : Nat → List Nat → List (List Nat)
  | 0, _ => []
  | k + 1, l => match cutL l with
    | none => []
    | some (q, s) => q :: rowsF k (l.drop s)

theorem cutL_pos {l q : List Nat} {s : Nat} (h : cutL l = some (q, s)) : 1 ≤ s ∧ s ≤ l.length := by
  unfold cutL at h
  split at h
  · cases h
  · rename_i n s' ht
    have := takeL_le ht
    split at h
    · cases h
    · injection h with h
      injection h with h1 h2
      omega
theorem rowsF_fuel : ∀ (k j : Nat) (l : List Nat), l.length < k → l.length < j → rowsF k l = rowsF j l
  | 0, _, _, h, _ => by omega
  | _, 0, _, _, h => by omega
  | k + 1, j + 1, l, h1, h2 => by
    simp only [rowsF]
    cases ht : cutL l with
    | none => rfl
    | some x =>
      obtain ⟨n, s⟩ := x
      have := cutL_pos ht
      simp only
      rw [rowsF_fuel k j (l.drop s) (by rw [List.length_drop]; omega) (by rw [List.length_drop]; omega)]
def rowsOf (l : List Nat) : List (List Nat) := rowsF (l.length + 1) l
theorem rowsOf_none {l : List Nat} (h : cutL l = none) : rowsOf l = [] := by simp [rowsOf, rowsF, h]
theorem rowsOf_some {l q : List Nat} {s : Nat} (h : cutL l = some (q, s)) : rowsOf l = q :: rowsOf (l.drop s) := by
  have hp := cutL_pos h
  unfold rowsOf
  rw [show rowsF (l.length + 1) l = q :: rowsF l.length (l.drop s) by simp only [rowsF, h], rowsF_fuel _ ((l.drop s).length + 1) (l.drop s) (by rw [List.length_drop]; omega) (by omega)]

/-- A row is handed over, with the block that it lies in. -/
def RowHand : Hand (List Nat) := fun x vs β W => ∃ ao cap, vs = #[.slice ao x.length cap] ∧ OwnB 0 (.slice ao x.length cap) (BsM x) W ∧ ∀ k, β k ↔ (Value.slice ao x.length cap).ownBlock = some k
theorem OwnB.of {S S' : Nat} {v : Value} {l : List Value} {w w' : World} (h : OwnB S v l w) (hS : S' ≤ S) (hk : ∀ k, v.ownBlock = some k → w'.heap[k]? = w.heap[k]?) : OwnB S' v l w' := by
  refine ⟨h.1, ?_⟩
  rcases h.2 with h | ⟨g, cap, cur, h1, h2, h3, h4⟩
  · exact .inl h
  · exact .inr ⟨g, cap, cur, h1, Nat.le_trans hS h2, (hk g (by rw [h1]; rfl)).trans h3, h4⟩
theorem RowHand.stab : HandStab RowHand := by
  rintro x vs β W ⟨ao, cap, hv, ho, hi⟩
  exact ⟨fun k hk => (World.ownsRow.lt ho k ((hi k).1 hk)).2, fun W' hg hk => ⟨ao, cap, hv, ho.of (Nat.le_refl _) (fun k h => hk k ((hi k).2 h)), hi⟩⟩

theorem pre_snocM' {α : Type} {pre rest xs : List α} {x : α} (h : xs = pre ++ (x :: rest)) : (pre ++ [x]) <+: xs := ⟨rest, by rw [h]; simp⟩

set_option maxHeartbeats 2000000 in
theorem parts_row (n : Nat) (b1 b2 : Nat) (v : Value) (l : List Nat) (w : World) (h1 : w.cell? ⟨b1, 0, none⟩ = some v) (h2 : w.cell? ⟨b2, 0, none⟩ = some (.func (.func 125) #[] #[])) (hr : RdB w v l) (hb : ∀ b ∈ l, b < 256) (hl : l.length ≤ 1000000000)
    (G : FP) (hG1 : G b1) (hG2 : G b2) (hGv : ∀ a n c, v = .slice (some a) n c → l ≠ [] → G a.block) :
    IterR Tryz.prog n 188 #[.pointer (some ⟨b1, 0, none⟩), .pointer (some ⟨b2, 0, none⟩)] RowHand (rowsOf l) G w := by
  intro lp B Ψ J Jx Φ0 W hgw hG hΨ hΦ0 hJ hJx hround h0
  have hc1 : W.cell? ⟨b1, 0, none⟩ = some v := (World.cell?_of_block (hG b1 hG1).2).trans h1
  have hc2 : W.cell? ⟨b2, 0, none⟩ = some (.func (.func 125) #[] #[]) := (World.cell?_of_block (hG b2 hG2).2).trans h2
  have hBW : B ≤ W.heap.size := (hJ _ _ _ h0).2.1
  refine callsIn_of_wp Tryz.func188 rfl trivial ?_ rfl
  simp only [Tryz.ntmps188, List.size_toArray, List.length_cons, List.length_nil, Nat.reduceAdd, Nat.reduceSub, Array.replicate_succ, Array.replicate_zero, List.push_toArray, List.append_toArray, List.nil_append, List.cons_append]
  have HR := Lib.hid hr
  obtain ⟨ao, cap, rfl⟩ := hr.lenOf
  have keepG : ∀ wr, Only Ψ Φ0 W wr → ∀ k, G k → wr.heap[k]? = w.heap[k]? := fun wr ho k hk => (ho.block k (Nat.lt_of_lt_of_le (hG k hk).1 hgw.size) (fun h => (hΨ k h).2 hk) (fun h => hΦ0 k h hk)).trans (hG k hk).2
  have KG := Lib.hid keepG
  have HB := Lib.hid hb
  have HRD := Lib.hid hround
  have HJ := Lib.hid hJ
  have HGS : Hid (∀ k, G k → k < W.heap.size) := Lib.hid (fun k hk => Nat.lt_of_lt_of_le (hG k hk).1 hgw.size)
  have hGv' : ∀ a, ao = some a → l ≠ [] → G a.block := fun a e => hGv a _ _ (by rw [e])
  have HGV := Lib.hid hGv'
  have H2 := Lib.hid h2
  clear hr keepG hb hround hJ hJx hG hΨ hΦ0 h1 h2 hGv hGv'
  gi_wp2
  clear hc1 hc2
  gi_loopw [4] (fun r wr => ∃ (pre : List (List Nat)) (l2 : List Nat) (Φ : FP) (ao : Option Addr) (cap : Nat), r = .slice ao l2.length cap ∧ RdB w (.slice ao l2.length cap) l2 ∧ (∀ a, ao = some a → l2 ≠ [] → G a.block) ∧ rowsOf l = pre ++ rowsOf l2 ∧ (∀ b ∈ l2, b < 256) ∧ l2.length ≤ l.length ∧ J pre Φ wr ∧ Only Ψ Φ0 W wr ∧ (∀ k, Φ k → Φ0 k ∨ W.heap.size ≤ k))
    (fun r wr => lenV r)
  case atStart => exact ⟨[], l, Φ0, ao, cap, rfl, HR.out, HGV.out, rfl, HB.out, Nat.le_refl _, h0, Only.refl _ _ _, fun k h => .inl h⟩
  case round =>
    obtain ⟨pre, l2, Φ, ao2, cap2, rfl, hr2, hG2', hx, hb2, hl2, hJ2, ho2, hn2⟩ := hrel
    have hcb2 : wr.cell? ⟨b2, 0, none⟩ = some (.func (.func 125) #[] #[]) := (World.cell?_of_block (KG.out wr ho2 b2 hG2)).trans H2.out
    have hrw := hr2.on (W := wr) (fun a e hne => KG.out wr ho2 _ (hG2' a e hne))
    have HRW := Lib.hid hrw
    have HB2 := Lib.hid hb2
    have hl3 : l2.length ≤ 1000000000 := by omega
    have hsv := HJ.out _ _ _ hJ2
    have HSV := Lib.hid hsv
    clear hsv
    cases ht : cutL l2 with
    | none =>
      have HT := Lib.hid ht
      clear ht hrw hb2
      gi_wp2_with (first | (gi_at_call 125; refine (callsIn_wide.2 (compact_Cut _ _ _ HRW.out HB2.out hl3)).mono ?_; rw [HT.out]; simp only [CutOwn]; rintro e w1 ⟨hb1, hs1, rfl⟩) | (refine ⟨trivial, ?_⟩; gi_at_call 125; refine (callsIn_wide.2 (compact_Cut _ _ _ HRW.out HB2.out hl3)).mono ?_; rw [HT.out]; simp only [CutOwn]; rintro e w1 ⟨hb1, hs1, rfl⟩) | fail)
      refine ⟨fun _ h => (by cases h), ?_⟩
      gi_wp2
      refine bodyPost_ret (results_none rfl _ _ _) rfl ?_
      have hxs : rowsOf l = pre := by rw [hx, rowsOf_none HT.out, List.append_nil]
      have hJ3 : J pre Φ w1 := HSV.out.2.2 w1 (Grow.of_below hb1) (fun k hk => hb1.block k (hk.elim (fun h => Nat.lt_of_lt_of_le h HSV.out.2.1) (fun h => (HSV.out.1 k h).2)))
      exact ⟨⟨_, rfl⟩, Φ, hn2, ho2.trans (Only.of_later hb1 (Φ := Φ0)) (fun j h => .inl h), .inl (by rw [hxs]; exact hJ3)⟩
    | some ns =>
      obtain ⟨x, s⟩ := ns
      have HT := Lib.hid ht
      obtain ⟨hs1, hs2⟩ := cutL_pos ht
      have hr2' := hr2
      rcases hr2' with ⟨-, h⟩ | ⟨⟨blk, off, spot⟩, cap', hv, hcap, hcell⟩
      · subst h; simp at hs2; omega
      injection hv with hv1 hv2 hv3
      subst hv1 hv3
      have hspot : spot = none := by
        have := World.cell?_spot (hcell 0 (by omega)); simpa [Addr.add] using this
      subst hspot
      have hdr := rd_drop hr2 (s := s) (k := l2.length - s) (by omega) rfl
      have hdl : (l2.drop s).length = l2.length - s := by simp
      have hdt : (l2.drop s).take (l2.length - s) = l2.drop s := by rw [← hdl, List.take_length]
      rw [hdt, ← hdl] at hdr
      have HDR := Lib.hid hdr
      have HDL := Lib.hid hdl
      have hGb := hG2' _ rfl (by intro e; rw [e] at hs2; simp at hs2; omega)
      have hcs1 : (s : Int) ≤ (l2.length : Int) := by omega
      have hcs2 : (s : Int) ≤ (cap2 : Int) := by omega
      clear hcell hdr hdt hdl hv2
      have hx2 : rowsOf l = pre ++ (x :: rowsOf (l2.drop s)) := by rw [hx, rowsOf_some ht]
      have HX2 := Lib.hid hx2
      have hWr := ho2.grow.size
      have START : Hid (∀ (w1 : World) (ao1 : Option Addr) (cap1 : Nat), Below wr.heap.size wr w1 → OwnB wr.heap.size (.slice ao1 x.length cap1) (BsM x) w1 → RoundOkR Tryz.prog n lp #[.slice ao1 x.length cap1] Ψ J Jx pre x (fun k => Φ k ∨ (Value.slice ao1 x.length cap1).ownBlock = some k) w1) := Lib.hid fun w1 ao1 cap1 hb1 ho1 =>
        HRD.out pre x _ _ Φ w1 (pre_snocM' HX2.out) (HSV.out.2.2 w1 (Grow.of_below hb1) (fun k hk => hb1.block k (hk.elim (fun h => Nat.lt_of_lt_of_le h HSV.out.2.1) (fun h => (HSV.out.1 k h).2)))) ⟨ao1, cap1, rfl, ho1.of (Nat.zero_le _) (fun _ _ => rfl), fun _ => Iff.rfl⟩
          (fun k hk => by
            have := World.ownsRow.lt ho1 k hk
            exact ⟨by omega, fun h => by have := (HSV.out.1 k h).2; omega, fun h => by have := HGS.out k h; omega⟩)
      clear ht hrw hb2 hx2 hx
      gi_wp2_with (first | (gi_at_call 125; refine (callsIn_wide.2 (compact_Cut _ _ _ HRW.out HB2.out hl3)).mono ?_; rw [HT.out]; simp only [CutOwn]; rintro e w1 ⟨hb1, hsz1, v1, rfl, ho1⟩; obtain ⟨ao1, cap1, rfl⟩ := ho1.reads.lenOf; obtain ⟨fn, tm, asg, bd, hy, hR⟩ := START.out w1 ao1 cap1 hb1 ho1; have HO1 := Lib.hid ho1; have HB1 := Lib.hid hb1; clear ho1 hb1) | (refine ⟨trivial, ?_⟩; gi_at_call 125; refine (callsIn_wide.2 (compact_Cut _ _ _ HRW.out HB2.out hl3)).mono ?_; rw [HT.out]; simp only [CutOwn]; rintro e w1 ⟨hb1, hsz1, v1, rfl, ho1⟩; obtain ⟨ao1, cap1, rfl⟩ := ho1.reads.lenOf; obtain ⟨fn, tm, asg, bd, hy, hR⟩ := START.out w1 ao1 cap1 hb1 ho1; have HO1 := Lib.hid ho1; have HB1 := Lib.hid hb1; clear ho1 hb1) | fail)
      refine hR.mono ?_
      rintro e W' ⟨Φ', hn', ho', hres⟩
      have ho3 : Only Ψ Φ0 W W' := (ho2.trans (Only.of_later HB1.out (Φ := Φ0)) (fun j h => .inl h)).trans ho' (fun j hj => hj.elim (hn2 j) (fun h => .inr (by have := World.ownsRow.lt HO1.out j h; omega)))
      have hn3 : ∀ k, Φ' k → Φ0 k ∨ W.heap.size ≤ k := fun k hk => (hn' k hk).elim (fun h => h.elim (hn2 k) (fun h => .inr (by have := World.ownsRow.lt HO1.out k h; omega))) (fun h => .inr (by omega))
      rcases hres with ⟨rfl, hJ'⟩ | ⟨rfl, hJ'⟩
      · have hx3 : rowsOf l = (pre ++ [x]) ++ rowsOf (l2.drop s) := by rw [HX2.out]; simp
        have HX3 := Lib.hid hx3
        have hbd : ∀ b ∈ l2.drop s, b < 256 := fun b h => HB2.out b (List.mem_of_mem_drop h)
        have HBD := Lib.hid hbd
        have hlt : l2.length - s < l2.length := by omega
        clear hx3 hbd
        by_cases hcs : s = cap2
        · subst hcs
          have he0 : l2.length - s = 0 := by omega
          have hd0 : l2.drop s = [] := List.drop_of_length_le (by omega)
          have HD0 := Lib.hid hd0
          have hle : s - s = 0 := by omega
          clear hd0
          gi_wp2
          refine ⟨⟨pre ++ [x], l2.drop s, Φ', some ⟨blk, off, none⟩, 0, by rw [HD0.out]; rfl, by rw [HD0.out]; exact .inr ⟨_, _, rfl, by simp, fun i hi => by simp at hi⟩, fun _ _ h => absurd HD0.out h, HX3.out, HBD.out, by rw [HD0.out]; simp, hJ', ho3, hn3⟩, by show 0 < l2.length; omega⟩
        · have hcs' : (cap2 = s) = False := by simp; omega
          gi_wp2
          refine ⟨⟨pre ++ [x], l2.drop s, Φ', some ⟨blk, off + s, none⟩, cap2 - s, by rw [HDL.out], HDR.out, fun a ha _ => by cases ha; exact hGb, HX3.out, HBD.out, by rw [HDL.out]; omega, hJ', ho3, hn3⟩, hlt⟩
      · gi_wp2
        refine bodyPost_ret (results_none rfl _ _ _) rfl ?_
        exact ⟨⟨_, rfl⟩, Φ', hn3, ho3, .inr ⟨_, pre_snocM' HX2.out, hJ'⟩⟩
end Go.Proofs.YteioacpfphigjaaGreatDoor
end
