/-
  What compact's parts tells of numbers.
-/
import Derived.Test.YtioleibcekobeaaIter
import Derived.Test.YtioleibcekobeaaComD
import Derived.RangeFuncNested
import Derived.RangeFuncBound
import Derived.RangeFuncCalls
import Derived.RangeFuncLeaves
import Derived.Shelf.Abstract
import Derived.Shelf.RegionOpen
import Derived.OwnWalkIn
import Derived.TacticsInMore
import Derived.LoopNIn
import Derived.LoopIn
namespace Go.Proofs.Ytioleibcekobeaa
open Go.RowKit Go.Shelf
attribute [local go_sem] Oper.semAt_some
set_option linter.unusedVariables false

/-- The numbers that bytes tell, one behind the other. -/
def numsF : Nat → List Nat → List Nat
  | 0, _ => []
  | k + 1, l => match takeL l with
    | none => []
    | some (n, s) => n :: numsF k (l.drop s)

theorem takeL_pos {l : List Nat} {n s : Nat} (h : takeL l = some (n, s)) : 1 ≤ s ∧ s ≤ l.length := ⟨(takeL_le h).2.2, (takeL_le h).1⟩

theorem numsF_fuel : ∀ (k j : Nat) (l : List Nat), l.length < k → l.length < j → numsF k l = numsF j l
  | 0, _, _, h, _ => by omega
  | _, 0, _, _, h => by omega
  | k + 1, j + 1, l, h1, h2 => by
    simp only [numsF]
    cases ht : takeL l with
    | none => rfl
    | some x =>
      obtain ⟨n, s⟩ := x
      have := takeL_pos ht
      simp only
      rw [numsF_fuel k j (l.drop s) (by rw [List.length_drop]; omega) (by rw [List.length_drop]; omega)]
def numsOf (l : List Nat) : List Nat := numsF (l.length + 1) l
theorem numsOf_none {l : List Nat} (h : takeL l = none) : numsOf l = [] := by simp [numsOf, numsF, h]
theorem numsOf_some {l : List Nat} {n s : Nat} (h : takeL l = some (n, s)) : numsOf l = n :: numsOf (l.drop s) := by
  have hp := takeL_pos h
  unfold numsOf
  rw [show numsF (l.length + 1) l = n :: numsF l.length (l.drop s) by simp only [numsF, h], numsF_fuel _ ((l.drop s).length + 1) (l.drop s) (by rw [List.length_drop]; omega) (by omega)]

theorem RdB.on {w W : World} {ao : Option Addr} {k cap : Nat} {l : List Nat} (h : RdB w (.slice ao k cap) l) (hb : ∀ a, ao = some a → l ≠ [] → W.heap[a.block]? = w.heap[a.block]?) : RdB W (.slice ao k cap) l := by
  rcases h with h | ⟨a, cap', hv, hc, hcell⟩
  · exact .inl h
  · injection hv with h1 h2 h3
    subst h1 h2 h3
    refine .inr ⟨a, cap, rfl, hc, fun i hi => ?_⟩
    have : (a.add i).block = a.block := by unfold Addr.add; split <;> rfl
    rw [World.cell?_of_block (w := w) (by rw [this]; exact hb a rfl (by intro e; rw [e] at hi; simp at hi))]; exact hcell i hi

/-- A slice's length. -/
def lenV : Value → Nat
  | .slice _ n _ => n
  | _ => 0

theorem pre_snoc {pre rest xs : List Nat} {x : Nat} (h : xs = pre ++ (x :: rest)) : (pre ++ [x]) <+: xs := ⟨rest, by rw [h]; simp⟩

set_option maxHeartbeats 2000000 in
theorem parts_int (n : Nat) (b1 b2 : Nat) (v : Value) (l : List Nat) (w : World) (h1 : w.cell? ⟨b1, 0, none⟩ = some v) (h2 : w.cell? ⟨b2, 0, none⟩ = some (.func (.func 15) #[] #[])) (hr : RdB w v l) (hb : ∀ b ∈ l, b < 256) (hl : l.length ≤ 1000000000)
    (G : FP) (hG1 : G b1) (hG2 : G b2) (hGv : ∀ a n c, v = .slice (some a) n c → l ≠ [] → G a.block) :
    Iter Try.prog n 43 #[.pointer (some ⟨b1, 0, none⟩), .pointer (some ⟨b2, 0, none⟩)] (fun x : Nat => #[.int .i64 (x : Int)]) (numsOf l) G w := by
  intro lp B Ψ J Jx Φ0 W hgw hG hΨ hΦ0 hJ hJx hround h0
  have hc1 : W.cell? ⟨b1, 0, none⟩ = some v := (World.cell?_of_block (hG b1 hG1).2).trans h1
  have hc2 : W.cell? ⟨b2, 0, none⟩ = some (.func (.func 15) #[] #[]) := (World.cell?_of_block (hG b2 hG2).2).trans h2
  refine callsIn_of_wp Try.func43 rfl trivial ?_ rfl
  simp only [Try.ntmps43, List.size_toArray, List.length_cons, List.length_nil, Nat.reduceAdd, Nat.reduceSub, Array.replicate_succ, Array.replicate_zero, List.push_toArray, List.append_toArray, List.nil_append, List.cons_append]
  have HR := Lib.hid hr
  obtain ⟨ao, cap, rfl⟩ := hr.lenOf
  have keepG : ∀ wr, Only Ψ Φ0 W wr → ∀ k, G k → wr.heap[k]? = w.heap[k]? := fun wr ho k hk => (ho.block k (Nat.lt_of_lt_of_le (hG k hk).1 hgw.size) (fun h => (hΨ k h).2 hk) (fun h => hΦ0 k h hk)).trans (hG k hk).2
  have KG := Lib.hid keepG
  have HB := Lib.hid hb
  have HRD := Lib.hid hround
  have HJ := Lib.hid hJ
  have hGv' : ∀ a, ao = some a → l ≠ [] → G a.block := fun a e => hGv a _ _ (by rw [e])
  have HGV := Lib.hid hGv'
  have H2 := Lib.hid h2
  clear hr keepG hb hround hJ hJx hG hΨ hΦ0 h1 h2 hGv hGv'
  gi_wp2
  clear hc1 hc2
  gi_loopw [4] (fun r wr => ∃ (pre l2 : List Nat) (Φ : FP) (ao : Option Addr) (cap : Nat), r = .slice ao l2.length cap ∧ RdB w (.slice ao l2.length cap) l2 ∧ (∀ a, ao = some a → l2 ≠ [] → G a.block) ∧ numsOf l = pre ++ numsOf l2 ∧ (∀ b ∈ l2, b < 256) ∧ l2.length ≤ l.length ∧ J pre Φ wr ∧ Only Ψ Φ0 W wr ∧ (∀ k, Φ k → Φ0 k ∨ W.heap.size ≤ k))
    (fun r wr => lenV r)
  case atStart => exact ⟨[], l, Φ0, ao, cap, rfl, HR.out, HGV.out, rfl, HB.out, Nat.le_refl _, h0, Only.refl _ _ _, fun k h => .inl h⟩
  case round =>
    obtain ⟨pre, l2, Φ, ao2, cap2, rfl, hr2, hG2', hx, hb2, hl2, hJ2, ho2, hn2⟩ := hrel
    have hcb2 : wr.cell? ⟨b2, 0, none⟩ = some (.func (.func 15) #[] #[]) := (World.cell?_of_block (KG.out wr ho2 b2 hG2)).trans H2.out
    have hrw := hr2.on (W := wr) (fun a e hne => KG.out wr ho2 _ (hG2' a e hne))
    have HRW := Lib.hid hrw
    have HB2 := Lib.hid hb2
    cases ht : takeL l2 with
    | none =>
      have HT := Lib.hid ht
      clear ht hrw hb2
      gi_wp2_with (first | (gi_at_call 15; refine (callsIn_wide.2 (compact_Take _ _ _ HRW.out HB2.out)).mono ?_; rw [HT.out]; rintro e w' ⟨rfl, rfl⟩; simp only [takeV]) | (refine ⟨trivial, ?_⟩; gi_at_call 15; refine (callsIn_wide.2 (compact_Take _ _ _ HRW.out HB2.out)).mono ?_; rw [HT.out]; rintro e w' ⟨rfl, rfl⟩; simp only [takeV]) | fail)
      refine ⟨fun _ h => (by cases h), ?_⟩
      gi_wp2
      refine bodyPost_ret (results_none rfl _ _ _) rfl ?_
      have hxs : numsOf l = pre := by rw [hx, numsOf_none HT.out, List.append_nil]
      exact ⟨⟨_, rfl⟩, Φ, hn2, ho2, .inl (by rw [hxs]; exact hJ2)⟩
    | some ns =>
      obtain ⟨x, s⟩ := ns
      have HT := Lib.hid ht
      obtain ⟨hs1, hs2⟩ := takeL_pos ht
      have hr2' := hr2
      rcases hr2' with ⟨-, h⟩ | ⟨⟨blk, off, spot⟩, cap', hv, hcap, hcell⟩
      · subst h; simp at hs2; omega
      injection hv with hv1 hv2 hv3
      subst hv1 hv3
      have hspot : spot = none := by
        have := World.cell?_spot (hcell 0 (by omega)); simpa [Addr.add] using this
      subst hspot
      have hdr := rd_drop hr2 (s := s) (k := l2.length - s) (by omega) rfl
      have hdl : (l2.drop s).length = l2.length - s := by simp
      have hdt : (l2.drop s).take (l2.length - s) = l2.drop s := by rw [← hdl, List.take_length]
      rw [hdt, ← hdl] at hdr
      have HDR := Lib.hid hdr
      have HDL := Lib.hid hdl
      have hGb := hG2' _ rfl (by intro e; rw [e] at hs2; simp at hs2; omega)
      have hcs1 : (s : Int) ≤ (l2.length : Int) := by omega
      have hcs2 : (s : Int) ≤ (cap2 : Int) := by omega
      clear hcell hdr hdt hdl hv2
      have hx2 : numsOf l = pre ++ (x :: numsOf (l2.drop s)) := by rw [hx, numsOf_some ht]
      have HX2 := Lib.hid hx2
      obtain ⟨fn, tm, asg, bd, hy, hR⟩ := HRD.out pre x Φ wr (pre_snoc hx2) hJ2
      clear ht hrw hb2 hx2 hx
      dsimp only at hy
      gi_wp2_with (first | (gi_at_call 15; refine (callsIn_wide.2 (compact_Take _ _ _ HRW.out HB2.out)).mono ?_; rw [HT.out]; rintro e w' ⟨rfl, rfl⟩; simp only [takeV]) | (refine ⟨trivial, ?_⟩; gi_at_call 15; refine (callsIn_wide.2 (compact_Take _ _ _ HRW.out HB2.out)).mono ?_; rw [HT.out]; rintro e w' ⟨rfl, rfl⟩; simp only [takeV]) | fail)
      refine hR.mono ?_
      rintro e W' ⟨Φ', hn', ho', (⟨rfl, hJ'⟩ | ⟨rfl, hJ'⟩)⟩
      · have ho3 : Only Ψ Φ0 W W' := ho2.trans ho' hn2
        have hn3 : ∀ k, Φ' k → Φ0 k ∨ W.heap.size ≤ k := fun k hk => (hn' k hk).elim (hn2 k) (fun h => .inr (Nat.le_trans ho2.grow.size h))
        have hx3 : numsOf l = (pre ++ [x]) ++ numsOf (l2.drop s) := by rw [HX2.out]; simp
        have HX3 := Lib.hid hx3
        have hbd : ∀ b ∈ l2.drop s, b < 256 := fun b h => HB2.out b (List.mem_of_mem_drop h)
        have HBD := Lib.hid hbd
        have hlt : l2.length - s < l2.length := by omega
        clear hx3 hbd
        by_cases hcs : s = cap2
        · subst hcs
          have he0 : l2.length - s = 0 := by omega
          have hd0 : l2.drop s = [] := List.drop_of_length_le (by omega)
          have HD0 := Lib.hid hd0
          have hle : s - s = 0 := by omega
          clear hd0
          gi_wp2
          refine ⟨⟨pre ++ [x], l2.drop s, Φ', some ⟨blk, off, none⟩, 0, by rw [HD0.out]; rfl, by rw [HD0.out]; exact .inr ⟨_, _, rfl, by simp, fun i hi => by simp at hi⟩, fun _ _ h => absurd HD0.out h, HX3.out, HBD.out, by rw [HD0.out]; simp, hJ', ho3, hn3⟩, by show 0 < l2.length; omega⟩
        · have hcs' : (cap2 = s) = False := by simp; omega
          gi_wp2
          refine ⟨⟨pre ++ [x], l2.drop s, Φ', some ⟨blk, off + s, none⟩, cap2 - s, by rw [HDL.out], HDR.out, fun a ha _ => by cases ha; exact hGb, HX3.out, HBD.out, by rw [HDL.out]; omega, hJ', ho3, hn3⟩, hlt⟩
      · gi_wp2
        refine bodyPost_ret (results_none rfl _ _ _) rfl ?_
        exact ⟨⟨_, rfl⟩, Φ', fun k hk => (hn' k hk).elim (hn2 k) (fun h => .inr (Nat.le_trans ho2.grow.size h)), ho2.trans ho' hn2, .inr ⟨_, pre_snoc HX2.out, hJ'⟩⟩
end Go.Proofs.Ytioleibcekobeaa
