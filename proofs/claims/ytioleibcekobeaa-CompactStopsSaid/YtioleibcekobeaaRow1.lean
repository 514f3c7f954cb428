/-
  What compact's parts tells of rows.
-/
import Derived.Test.YtioleibcekobeaaIterR
import Derived.Test.YtioleibcekobeaaNum4
import Derived.Test.YtioleibcekobeaaComG
namespace Go.Proofs.Ytioleibcekobeaa
open Go.RowKit Go.Shelf
attribute [local go_sem] Oper.semAt_some
set_option linter.unusedVariables false

/-- The rows that bytes tell, one behind the other. -/
def rowsF : Nat → List Nat → List (List Nat)
  | 0, _ => []
  | k + 1, l => match cutL l with
    | none => []
    | some (q, s) => q :: rowsF k (l.drop s)

theorem cutL_pos {l q : List Nat} {s : Nat} (h : cutL l = some (q, s)) : 1 ≤ s ∧ s ≤ l.length := by
  unfold cutL at h
  split at h
  · cases h
  · rename_i n s' ht
    have := takeL_le ht
    split at h
    · cases h
    · injection h with h
      injection h with h1 h2
      omega
theorem rowsF_fuel : ∀ (k j : Nat) (l : List Nat), l.length < k → l.length < j → rowsF k l = rowsF j l
  | 0, _, _, h, _ => by omega
  | _, 0, _, _, h => by omega
  | k + 1, j + 1, l, h1, h2 => by
    simp only [rowsF]
    cases ht : cutL l with
    | none => rfl
    | some x =>
      obtain ⟨n, s⟩ := x
      have := cutL_pos ht
      simp only
      rw [rowsF_fuel k j (l.drop s) (by rw [List.length_drop]; omega) (by rw [List.length_drop]; omega)]
def rowsOf (l : List Nat) : List (List Nat) := rowsF (l.length + 1) l
theorem rowsOf_none {l : List Nat} (h : cutL l = none) : rowsOf l = [] := by simp [rowsOf, rowsF, h]
theorem rowsOf_some {l q : List Nat} {s : Nat} (h : cutL l = some (q, s)) : rowsOf l = q :: rowsOf (l.drop s) := by
  have hp := cutL_pos h
  unfold rowsOf
  rw [show rowsF (l.length + 1) l = q :: rowsF l.length (l.drop s) by simp only [rowsF, h], rowsF_fuel _ ((l.drop s).length + 1) (l.drop s) (by rw [List.length_drop]; omega) (by omega)]

/-- A row is handed over, with the block that it lies in. -/
def RowHand : Hand (List Nat) := fun x vs β W => ∃ ao cap, vs = #[.slice ao x.length cap] ∧ OwnB 0 (.slice ao x.length cap) (Bs x) W ∧ ∀ k, β k ↔ (Value.slice ao x.length cap).ownBlock = some k
theorem OwnB.of {S S' : Nat} {v : Value} {l : List Value} {w w' : World} (h : OwnB S v l w) (hS : S' ≤ S) (hk : ∀ k, v.ownBlock = some k → w'.heap[k]? = w.heap[k]?) : OwnB S' v l w' := by
  refine ⟨h.1, ?_⟩
  rcases h.2 with h | ⟨g, cap, cur, h1, h2, h3, h4⟩
  · exact .inl h
  · exact .inr ⟨g, cap, cur, h1, Nat.le_trans hS h2, (hk g (by rw [h1]; rfl)).trans h3, h4⟩
theorem RowHand.stab : HandStab RowHand := by
  rintro x vs β W ⟨ao, cap, hv, ho, hi⟩
  exact ⟨fun k hk => (World.ownsRow.lt ho k ((hi k).1 hk)).2, fun W' hg hk => ⟨ao, cap, hv, ho.of (Nat.le_refl _) (fun k h => hk k ((hi k).2 h)), hi⟩⟩

theorem pre_snoc' {α : Type} {pre rest xs : List α} {x : α} (h : xs = pre ++ (x :: rest)) : (pre ++ [x]) <+: xs := ⟨rest, by rw [h]; simp⟩

set_option maxHeartbeats 2000000 in
theorem parts_row (n : Nat) (b1 b2 : Nat) (v : Value) (l : List Nat) (w : World) (h1 : w.cell? ⟨b1, 0, none⟩ = some v) (h2 : w.cell? ⟨b2, 0, none⟩ = some (.func (.func 17) #[] #[])) (hr : RdB w v l) (hb : ∀ b ∈ l, b < 256) (hl : l.length ≤ 1000000000)
    (G : FP) (hG1 : G b1) (hG2 : G b2) (hGv : ∀ a n c, v = .slice (some a) n c → l ≠ [] → G a.block) :
    IterR Try.prog n 45 #[.pointer (some ⟨b1, 0, none⟩), .pointer (some ⟨b2, 0, none⟩)] RowHand (rowsOf l) G w := by
  intro lp B Ψ J Jx Φ0 W hgw hG hΨ hΦ0 hJ hJx hround h0
  have hc1 : W.cell? ⟨b1, 0, none⟩ = some v := (World.cell?_of_block (hG b1 hG1).2).trans h1
  have hc2 : W.cell? ⟨b2, 0, none⟩ = some (.func (.func 17) #[] #[]) := (World.cell?_of_block (hG b2 hG2).2).trans h2
  have hBW : B ≤ W.heap.size := (hJ _ _ _ h0).2.1
  refine callsIn_of_wp Try.func45 rfl trivial ?_ rfl
  simp only [Try.ntmps45, List.size_toArray, List.length_cons, List.length_nil, Nat.reduceAdd, Nat.reduceSub, Array.replicate_succ, Array.replicate_zero, List.push_toArray, List.append_toArray, List.nil_append, List.cons_append]
  have HR := Lib.hid hr
  obtain ⟨ao, cap, rfl⟩ := hr.lenOf
  have keepG : ∀ wr, Only Ψ Φ0 W wr → ∀ k, G k → wr.heap[k]? = w.heap[k]? := fun wr ho k hk => (ho.block k (Nat.lt_of_lt_of_le (hG k hk).1 hgw.size) (fun h => (hΨ k h).2 hk) (fun h => hΦ0 k h hk)).trans (hG k hk).2
  have KG := Lib.hid keepG
  have HB := Lib.hid hb
  have HRD := Lib.hid hround
  have HJ := Lib.hid hJ
  have HGS : Hid (∀ k, G k → k < W.heap.size) := Lib.hid (fun k hk => Nat.lt_of_lt_of_le (hG k hk).1 hgw.size)
  have hGv' : ∀ a, ao = some a → l ≠ [] → G a.block := fun a e => hGv a _ _ (by rw [e])
  have HGV := Lib.hid hGv'
  have H2 := Lib.hid h2
  clear hr keepG hb hround hJ hJx hG hΨ hΦ0 h1 h2 hGv hGv'
  gi_wp2
  clear hc1 hc2
  gi_loopw [4] (fun r wr => ∃ (pre : List (List Nat)) (l2 : List Nat) (Φ : FP) (ao : Option Addr) (cap : Nat), r = .slice ao l2.length cap ∧ RdB w (.slice ao l2.length cap) l2 ∧ (∀ a, ao = some a → l2 ≠ [] → G a.block) ∧ rowsOf l = pre ++ rowsOf l2 ∧ (∀ b ∈ l2, b < 256) ∧ l2.length ≤ l.length ∧ J pre Φ wr ∧ Only Ψ Φ0 W wr ∧ (∀ k, Φ k → Φ0 k ∨ W.heap.size ≤ k))
    (fun r wr => lenV r)
  case atStart => exact ⟨[], l, Φ0, ao, cap, rfl, HR.out, HGV.out, rfl, HB.out, Nat.le_refl _, h0, Only.refl _ _ _, fun k h => .inl h⟩
  case round =>
    obtain ⟨pre, l2, Φ, ao2, cap2, rfl, hr2, hG2', hx, hb2, hl2, hJ2, ho2, hn2⟩ := hrel
    have hcb2 : wr.cell? ⟨b2, 0, none⟩ = some (.func (.func 17) #[] #[]) := (World.cell?_of_block (KG.out wr ho2 b2 hG2)).trans H2.out
    have hrw := hr2.on (W := wr) (fun a e hne => KG.out wr ho2 _ (hG2' a e hne))
    have HRW := Lib.hid hrw
    have HB2 := Lib.hid hb2
    have hl3 : l2.length ≤ 1000000000 := by omega
    have hsv := HJ.out _ _ _ hJ2
    have HSV := Lib.hid hsv
    clear hsv
    cases ht : cutL l2 with
    | none =>
      have HT := Lib.hid ht
      clear ht hrw hb2
      gi_wp2_with (first | (gi_at_call 17; refine (callsIn_wide.2 (compact_Cut _ _ _ HRW.out HB2.out hl3)).mono ?_; rw [HT.out]; simp only [CutOwn]; rintro e w1 ⟨hb1, hs1, rfl⟩) | (refine ⟨trivial, ?_⟩; gi_at_call 17; refine (callsIn_wide.2 (compact_Cut _ _ _ HRW.out HB2.out hl3)).mono ?_; rw [HT.out]; simp only [CutOwn]; rintro e w1 ⟨hb1, hs1, rfl⟩) | fail)
      refine ⟨fun _ h => (by cases h), ?_⟩
      gi_wp2
      refine bodyPost_ret (results_none rfl _ _ _) rfl ?_
      have hxs : rowsOf l = pre := by rw [hx, rowsOf_none HT.out, List.append_nil]
      have hJ3 : J pre Φ w1 := HSV.out.2.2 w1 (Grow.of_below hb1) (fun k hk => hb1.block k (hk.elim (fun h => Nat.lt_of_lt_of_le h HSV.out.2.1) (fun h => (HSV.out.1 k h).2)))
      exact ⟨⟨_, rfl⟩, Φ, hn2, ho2.trans (Only.of_later hb1 (Φ := Φ0)) (fun j h => .inl h), .inl (by rw [hxs]; exact hJ3)⟩
    | some ns =>
      obtain ⟨x, s⟩ := ns
      have HT := Lib.hid ht
      obtain ⟨hs1, hs2⟩ := cutL_pos ht
      have hr2' := hr2
      rcases hr2' with ⟨-, h⟩ | ⟨⟨blk, off, spot⟩, cap', hv, hcap, hcell⟩
      · subst h; simp at hs2; omega
      injection hv with hv1 hv2 hv3
      subst hv1 hv3
      have hspot : spot = none := by
        have := World.cell?_spot (hcell 0 (by omega)); simpa [Addr.add] using this
      subst hspot
      have hdr := rd_drop hr2 (s := s) (k := l2.length - s) (by omega) rfl
      have hdl : (l2.drop s).length = l2.length - s := by simp
      have hdt : (l2.drop s).take (l2.length - s) = l2.drop s := by rw [← hdl, List.take_length]
      rw [hdt, ← hdl] at hdr
      have HDR := Lib.hid hdr
      have HDL := Lib.hid hdl
      have hGb := hG2' _ rfl (by intro e; rw [e] at hs2; simp at hs2; omega)
      have hcs1 : (s : Int) ≤ (l2.length : Int) := by omega
      have hcs2 : (s : Int) ≤ (cap2 : Int) := by omega
      clear hcell hdr hdt hdl hv2
      have hx2 : rowsOf l = pre ++ (x :: rowsOf (l2.drop s)) := by rw [hx, rowsOf_some ht]
      have HX2 := Lib.hid hx2
      have hWr := ho2.grow.size
      have START : Hid (∀ (w1 : World) (ao1 : Option Addr) (cap1 : Nat), Below wr.heap.size wr w1 → OwnB wr.heap.size (.slice ao1 x.length cap1) (Bs x) w1 → RoundOkR Try.prog n lp #[.slice ao1 x.length cap1] Ψ J Jx pre x (fun k => Φ k ∨ (Value.slice ao1 x.length cap1).ownBlock = some k) w1) := Lib.hid fun w1 ao1 cap1 hb1 ho1 =>
        HRD.out pre x _ _ Φ w1 (pre_snoc' HX2.out) (HSV.out.2.2 w1 (Grow.of_below hb1) (fun k hk => hb1.block k (hk.elim (fun h => Nat.lt_of_lt_of_le h HSV.out.2.1) (fun h => (HSV.out.1 k h).2)))) ⟨ao1, cap1, rfl, ho1.of (Nat.zero_le _) (fun _ _ => rfl), fun _ => Iff.rfl⟩
          (fun k hk => by
            have := World.ownsRow.lt ho1 k hk
            exact ⟨by omega, fun h => by have := (HSV.out.1 k h).2; omega, fun h => by have := HGS.out k h; omega⟩)
      clear ht hrw hb2 hx2 hx
      gi_wp2_with (first | (gi_at_call 17; refine (callsIn_wide.2 (compact_Cut _ _ _ HRW.out HB2.out hl3)).mono ?_; rw [HT.out]; simp only [CutOwn]; rintro e w1 ⟨hb1, hsz1, v1, rfl, ho1⟩; obtain ⟨ao1, cap1, rfl⟩ := ho1.reads.lenOf; obtain ⟨fn, tm, asg, bd, hy, hR⟩ := START.out w1 ao1 cap1 hb1 ho1; have HO1 := Lib.hid ho1; have HB1 := Lib.hid hb1; clear ho1 hb1) | (refine ⟨trivial, ?_⟩; gi_at_call 17; refine (callsIn_wide.2 (compact_Cut _ _ _ HRW.out HB2.out hl3)).mono ?_; rw [HT.out]; simp only [CutOwn]; rintro e w1 ⟨hb1, hsz1, v1, rfl, ho1⟩; obtain ⟨ao1, cap1, rfl⟩ := ho1.reads.lenOf; obtain ⟨fn, tm, asg, bd, hy, hR⟩ := START.out w1 ao1 cap1 hb1 ho1; have HO1 := Lib.hid ho1; have HB1 := Lib.hid hb1; clear ho1 hb1) | fail)
      refine hR.mono ?_
      rintro e W' ⟨Φ', hn', ho', hres⟩
      have ho3 : Only Ψ Φ0 W W' := (ho2.trans (Only.of_later HB1.out (Φ := Φ0)) (fun j h => .inl h)).trans ho' (fun j hj => hj.elim (hn2 j) (fun h => .inr (by have := World.ownsRow.lt HO1.out j h; omega)))
      have hn3 : ∀ k, Φ' k → Φ0 k ∨ W.heap.size ≤ k := fun k hk => (hn' k hk).elim (fun h => h.elim (hn2 k) (fun h => .inr (by have := World.ownsRow.lt HO1.out k h; omega))) (fun h => .inr (by omega))
      rcases hres with ⟨rfl, hJ'⟩ | ⟨rfl, hJ'⟩
      · have hx3 : rowsOf l = (pre ++ [x]) ++ rowsOf (l2.drop s) := by rw [HX2.out]; simp
        have HX3 := Lib.hid hx3
        have hbd : ∀ b ∈ l2.drop s, b < 256 := fun b h => HB2.out b (List.mem_of_mem_drop h)
        have HBD := Lib.hid hbd
        have hlt : l2.length - s < l2.length := by omega
        clear hx3 hbd
        by_cases hcs : s = cap2
        · subst hcs
          have he0 : l2.length - s = 0 := by omega
          have hd0 : l2.drop s = [] := List.drop_of_length_le (by omega)
          have HD0 := Lib.hid hd0
          have hle : s - s = 0 := by omega
          clear hd0
          gi_wp2
          refine ⟨⟨pre ++ [x], l2.drop s, Φ', some ⟨blk, off, none⟩, 0, by rw [HD0.out]; rfl, by rw [HD0.out]; exact .inr ⟨_, _, rfl, by simp, fun i hi => by simp at hi⟩, fun _ _ h => absurd HD0.out h, HX3.out, HBD.out, by rw [HD0.out]; simp, hJ', ho3, hn3⟩, by show 0 < l2.length; omega⟩
        · have hcs' : (cap2 = s) = False := by simp; omega
          gi_wp2
          refine ⟨⟨pre ++ [x], l2.drop s, Φ', some ⟨blk, off + s, none⟩, cap2 - s, by rw [HDL.out], HDR.out, fun a ha _ => by cases ha; exact hGb, HX3.out, HBD.out, by rw [HDL.out]; omega, hJ', ho3, hn3⟩, hlt⟩
      · gi_wp2
        refine bodyPost_ret (results_none rfl _ _ _) rfl ?_
        exact ⟨⟨_, rfl⟩, Φ', hn3, ho3, .inr ⟨_, pre_snoc' HX2.out, hJ'⟩⟩
end Go.Proofs.Ytioleibcekobeaa
