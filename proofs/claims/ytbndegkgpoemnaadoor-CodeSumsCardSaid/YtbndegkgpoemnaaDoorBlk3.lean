/-
  The document's mix.
-/
import Derived.Test.YtbndegkgpoemnaaDoorBlk2
namespace Go.Proofs.YtbndegkgpoemnaaDoor
open Go.RowKit
set_option linter.unusedVariables false

set_option maxHeartbeats 4000000 in
set_option maxRecDepth 100000 in
theorem ref_mix (blk a b c d x y : Nat) (l : List Nat) (w0 w1 : World) (t : TypeId) (hM : MS t blk w0 l w1) (ha : a < 16) (hb : b < 16) (hc : c < 16) (hd : d < 16) :
    Calls Tryd.prog 72 #[.pointer (some ⟨blk, 0, none⟩), .int .i64 a, .int .i64 b, .int .i64 c, .int .i64 d, .int .u64 x, .int .u64 y] w1 fun e w' => e = .returned (.tuple #[]) ∧ MS t blk w0 (mixL l a b c d x y) w' := by
  have ha' : (a : Int) < 16 := by omega
  have hb' : (b : Int) < 16 := by omega
  have hc' : (c : Int) < 16 := by omega
  have hd' : (d : Int) < 16 := by omega
  obtain ⟨l1, hl1⟩ : ∃ l1, l1 = l := ⟨_, rfl⟩
  rw [← hl1] at hM
  have HL1 := Lib.hid hl1
  have HM1 := Lib.hid hM
  have HA := Lib.hid ha
  have HB := Lib.hid hb
  have HC := Lib.hid hc
  have HD := Lib.hid hd
  clear hM ha hb hc hd hl1
  go_enter Tryd.func72, Tryd.ntmps72
  go_wp2
  obtain ⟨p, q, f, hx, hxl⟩ := HM1.out.facts a b HA.out HB.out
  clear hx hxl
  go_still_tail 17, (by kernel_rfl)
  change wpList _ _ _ _ _ w1.drew
  go_wp2
  clear p q
  obtain ⟨w2, hw⟩ : ∃ w', w' = (w1.setCell ⟨blk, a, none⟩ (.int .u64 (IntKind.u64.wrap (IntKind.u64.wrap (((gt l1 a : Nat) : Int) + ((gt l1 b : Nat) : Int)) + (x : Int))))).drew := ⟨_, rfl⟩
  have hm := HM1.out.addS a b x (v := IntKind.u64.wrap (IntKind.u64.wrap (((gt l1 a : Nat) : Int) + ((gt l1 b : Nat) : Int)) + (x : Int))) (add3_l _ _ _)
  rw [← hw] at hm ⊢
  obtain ⟨l2, hl⟩ : ∃ l', l' = addS l1 a b x := ⟨_, rfl⟩
  rw [← hl] at hm
  have HL2 := Lib.hid hl
  have HM2 := Lib.hid hm
  clear hw hm hl f HM1
  obtain ⟨p, q, f, hx, hxl⟩ := HM2.out.facts d a HD.out HA.out
  refine wp_region_still_tail 16 (by kernel_rfl) (by kernel_rfl) ?_
  simp only [List.take_succ_cons, List.take_zero, List.drop_succ_cons, List.drop_zero]
  repeat still_step
  still_call (ref_turned_still _ 32 _ rfl rfl hxl (by decide))
  repeat still_step
  refine wpStill_nil ?_
  change wpList _ _ _ _ _ w2.drew
  go_wp2
  clear p q hx hxl
  obtain ⟨w3, hw⟩ : ∃ w', w' = (w2.setCell ⟨blk, d, none⟩ (.int .u64 (rot (gt l2 d ^^^ gt l2 a) 32 : Nat))).drew := ⟨_, rfl⟩
  have hm := HM2.out.rotS d a 32
  rw [← hw] at hm ⊢
  obtain ⟨l3, hl⟩ : ∃ l', l' = rotS l2 d a 32 := ⟨_, rfl⟩
  rw [← hl] at hm
  have HL3 := Lib.hid hl
  have HM3 := Lib.hid hm
  clear hw hm hl f HM2
  obtain ⟨p, q, f, hx, hxl⟩ := HM3.out.facts c d HC.out HD.out
  clear hx hxl
  go_still_tail 15, (by kernel_rfl)
  change wpList _ _ _ _ _ w3.drew
  go_wp2
  clear p q
  obtain ⟨w4, hw⟩ : ∃ w', w' = (w3.setCell ⟨blk, c, none⟩ (.int .u64 (IntKind.u64.wrap (((gt l3 c : Nat) : Int) + ((gt l3 d : Nat) : Int))))).drew := ⟨_, rfl⟩
  have hm := HM3.out.addS c d 0 (v := IntKind.u64.wrap (((gt l3 c : Nat) : Int) + ((gt l3 d : Nat) : Int))) (add2 _ _)
  rw [← hw] at hm ⊢
  obtain ⟨l4, hl⟩ : ∃ l', l' = addS l3 c d 0 := ⟨_, rfl⟩
  rw [← hl] at hm
  have HL4 := Lib.hid hl
  have HM4 := Lib.hid hm
  clear hw hm hl f HM3
  obtain ⟨p, q, f, hx, hxl⟩ := HM4.out.facts b c HB.out HC.out
  refine wp_region_still_tail 16 (by kernel_rfl) (by kernel_rfl) ?_
  simp only [List.take_succ_cons, List.take_zero, List.drop_succ_cons, List.drop_zero]
  repeat still_step
  still_call (ref_turned_still _ 24 _ rfl rfl hxl (by decide))
  repeat still_step
  refine wpStill_nil ?_
  change wpList _ _ _ _ _ w4.drew
  go_wp2
  clear p q hx hxl
  obtain ⟨w5, hw⟩ : ∃ w', w' = (w4.setCell ⟨blk, b, none⟩ (.int .u64 (rot (gt l4 b ^^^ gt l4 c) 24 : Nat))).drew := ⟨_, rfl⟩
  have hm := HM4.out.rotS b c 24
  rw [← hw] at hm ⊢
  obtain ⟨l5, hl⟩ : ∃ l', l' = rotS l4 b c 24 := ⟨_, rfl⟩
  rw [← hl] at hm
  have HL5 := Lib.hid hl
  have HM5 := Lib.hid hm
  clear hw hm hl f HM4
  obtain ⟨p, q, f, hx, hxl⟩ := HM5.out.facts a b HA.out HB.out
  clear hx hxl
  go_still_tail 17, (by kernel_rfl)
  change wpList _ _ _ _ _ w5.drew
  go_wp2
  clear p q
  obtain ⟨w6, hw⟩ : ∃ w', w' = (w5.setCell ⟨blk, a, none⟩ (.int .u64 (IntKind.u64.wrap (IntKind.u64.wrap (((gt l5 a : Nat) : Int) + ((gt l5 b : Nat) : Int)) + (y : Int))))).drew := ⟨_, rfl⟩
  have hm := HM5.out.addS a b y (v := IntKind.u64.wrap (IntKind.u64.wrap (((gt l5 a : Nat) : Int) + ((gt l5 b : Nat) : Int)) + (y : Int))) (add3_l _ _ _)
  rw [← hw] at hm ⊢
  obtain ⟨l6, hl⟩ : ∃ l', l' = addS l5 a b y := ⟨_, rfl⟩
  rw [← hl] at hm
  have HL6 := Lib.hid hl
  have HM6 := Lib.hid hm
  clear hw hm hl f HM5
  obtain ⟨p, q, f, hx, hxl⟩ := HM6.out.facts d a HD.out HA.out
  refine wp_region_still_tail 16 (by kernel_rfl) (by kernel_rfl) ?_
  simp only [List.take_succ_cons, List.take_zero, List.drop_succ_cons, List.drop_zero]
  repeat still_step
  still_call (ref_turned_still _ 16 _ rfl rfl hxl (by decide))
  repeat still_step
  refine wpStill_nil ?_
  change wpList _ _ _ _ _ w6.drew
  go_wp2
  clear p q hx hxl
  obtain ⟨w7, hw⟩ : ∃ w', w' = (w6.setCell ⟨blk, d, none⟩ (.int .u64 (rot (gt l6 d ^^^ gt l6 a) 16 : Nat))).drew := ⟨_, rfl⟩
  have hm := HM6.out.rotS d a 16
  rw [← hw] at hm ⊢
  obtain ⟨l7, hl⟩ : ∃ l', l' = rotS l6 d a 16 := ⟨_, rfl⟩
  rw [← hl] at hm
  have HL7 := Lib.hid hl
  have HM7 := Lib.hid hm
  clear hw hm hl f HM6
  obtain ⟨p, q, f, hx, hxl⟩ := HM7.out.facts c d HC.out HD.out
  clear hx hxl
  go_still_tail 15, (by kernel_rfl)
  change wpList _ _ _ _ _ w7.drew
  go_wp2
  clear p q
  obtain ⟨w8, hw⟩ : ∃ w', w' = (w7.setCell ⟨blk, c, none⟩ (.int .u64 (IntKind.u64.wrap (((gt l7 c : Nat) : Int) + ((gt l7 d : Nat) : Int))))).drew := ⟨_, rfl⟩
  have hm := HM7.out.addS c d 0 (v := IntKind.u64.wrap (((gt l7 c : Nat) : Int) + ((gt l7 d : Nat) : Int))) (add2 _ _)
  rw [← hw] at hm ⊢
  obtain ⟨l8, hl⟩ : ∃ l', l' = addS l7 c d 0 := ⟨_, rfl⟩
  rw [← hl] at hm
  have HL8 := Lib.hid hl
  have HM8 := Lib.hid hm
  clear hw hm hl f HM7
  obtain ⟨p, q, f, hx, hxl⟩ := HM8.out.facts b c HB.out HC.out
  refine wp_region_still_tail 16 (by kernel_rfl) (by kernel_rfl) ?_
  simp only [List.take_succ_cons, List.take_zero, List.drop_succ_cons, List.drop_zero]
  repeat still_step
  still_call (ref_turned_still _ 63 _ rfl rfl hxl (by decide))
  repeat still_step
  refine wpStill_nil ?_
  change wpList _ _ _ _ _ w8.drew
  go_wp2
  clear p q hx hxl
  obtain ⟨w9, hw⟩ : ∃ w', w' = (w8.setCell ⟨blk, b, none⟩ (.int .u64 (rot (gt l8 b ^^^ gt l8 c) 63 : Nat))).drew := ⟨_, rfl⟩
  have hm := HM8.out.rotS b c 63
  rw [← hw] at hm ⊢
  obtain ⟨l9, hl⟩ : ∃ l', l' = rotS l8 b c 63 := ⟨_, rfl⟩
  rw [← hl] at hm
  have HL9 := Lib.hid hl
  have HM9 := Lib.hid hm
  clear hw hm hl f HM8
  refine bodyPost_end (v := .tuple #[]) (by simp [results, Tryd.results72, go_sem]) rfl ?_
  have e : l9 = mixL l a b c d x y := by rw [HL9.out, HL8.out, HL7.out, HL6.out, HL5.out, HL4.out, HL3.out, HL2.out, HL1.out]; rfl
  exact ⟨rfl, e ▸ HM9.out⟩
end Go.Proofs.YtbndegkgpoemnaaDoor
