/-
  The code's hasher takes bytes: the walk.
-/
import Derived.Test.YtjpmldjafkbncaaDoorBlkB
import Derived.Test.YtjpmldjafkbncaaDoorBlk7
namespace Go.Proofs.YtjpmldjafkbncaaDoor
open Go.RowKit
set_option linter.unusedVariables false
set_option linter.unusedSimpArgs false

theorem grown_trans {x y z : World} {b : Nat} (h : x.grownBy y (some b)) (k : y.grownBy z (some b)) : x.grownBy z (some b) :=
  ⟨k.os.trans h.os, k.tape.trans h.tape, k.output.trans h.output, Nat.le_trans h.size k.size, fun i hi hr => (k.block i (Nat.lt_of_lt_of_le hi h.size) hr).trans (h.block i hi hr)⟩
def sLen : Value → Nat
  | .slice _ n _ => n
  | _ => 0

theorem info5s : (Tryd.prog.info? 5).map (·.size) = some 1 := by kernel_rfl
/-- What came of a write. -/
def Wrote (b : Nat) (h0 A : List Nat) (w w' : World) : Prop :=
  (∃ h blk held count, HX b h blk held count w' ∧ Inv h0 A h blk held count) ∧ w.grownBy w' (some b) ∧ Glob w'

set_option maxHeartbeats 8000000 in
set_option maxRecDepth 100000 in
theorem blake_write (b : Nat) (h0 A h blk : List Nat) (held count : Nat) (v : Value) (p : List Nat) (w : World) (hG : Glob w) (hx : HX b h blk held count w) (hb2 : 2 ≤ b) (hi : Inv h0 A h blk held count) (hr : RdB w v p) (ha : Apart v b) (bp : ∀ x ∈ p, x < 256) (hl : A.length + p.length ≤ 1000000000) :
    Calls Tryd.prog 16 #[.pointer (some ⟨b, 0, none⟩), v] w fun e w' => e = .returned (.tuple #[]) ∧ Wrote b h0 (A ++ p) w w' := by
  have HBP := Lib.hid bp
  go_enter Tryd.func16, Tryd.ntmps16
  go_wp2
  go_loopw [1] (fun v' wr => ∃ j : Nat, j ≤ p.length ∧ RdB w v' (p.drop j) ∧ Apart v' b ∧ Wrote b h0 (A ++ p.take j) w wr) (fun v' _ => sLen v')
  case atStart => exact ⟨0, Nat.zero_le _, by simpa using hr, ha, ⟨h, blk, held, count, hx, by simpa using hi⟩, ⟨rfl, rfl, rfl, Nat.le_refl _, fun _ _ _ => rfl⟩, hG⟩
  case round =>
    clear hx hi hr ha hG bp
    obtain ⟨j, hj, hr, ha, ⟨h, blk, held, count, hx, hi⟩, hg, hG⟩ := hrel
    by_cases hlt : j < p.length
    · obtain ⟨pr, hpr⟩ : ∃ pr, pr = p.drop j := ⟨_, rfl⟩
      have hprl : pr.length = p.length - j := by rw [hpr]; simp
      have hprs : ∀ i, gt pr i < 256 := fun i => by
        rw [hpr]
        by_cases hi : i < (p.drop j).length
        · have : gt (p.drop j) i = (p.drop j)[i] := by simp only [gt, List.getD_eq_getElem?_getD, List.getElem?_eq_getElem hi, Option.getD_some]
          rw [this]
          exact HBP.out _ (List.mem_of_mem_drop (List.getElem_mem hi))
        · rw [gt_ge (by omega)]; decide
      rw [← hpr] at hr
      have hrW := hr.grown hg ha
      obtain ⟨a, cap, rfl, hcap⟩ : ∃ a cap, u1 = .slice (some a) pr.length cap ∧ pr.length ≤ cap := by
        rcases hr with ⟨-, h2⟩ | ⟨a, cap, h1, h2, -⟩
        · rw [h2] at hprl; simp at hprl; omega
        · exact ⟨a, cap, h1, h2⟩
      have hspot : a.spot = none := by
        have h0 : 0 < pr.length := by omega
        have hc := (RdB.cells hr).2 0 (.int .u8 (gt pr 0 : Nat)) (by simp [Bs, gt, h0])
        have := World.cell?_spot hc
        simpa [Addr.add] using this
      obtain ⟨ab, ao, sp⟩ := a
      simp only at hspot
      subst hspot
      have hab : ab ≠ b := ha _ _ _ rfl
      have hpos : (0 : Int) < (pr.length : Int) := by omega
      have hcl := hi.2.1
      rw [List.length_append, List.length_take] at hcl
      have HR := Lib.hid hr
      have HRW := Lib.hid hrW
      have HPS := Lib.hid hprs
      have HPR := Lib.hid hpr
      have HPL := Lib.hid hprl
      have HX1 := Lib.hid hx
      have HI := Lib.hid hi
      have HGR := Lib.hid hg
      have HGL := Lib.hid hG
      have k1 := hx.held
      have f1 := hx.frozen 136
      clear hr hrW hprs hpr hprl hx hi hg hG ha
      go_upto_if 12 with fail
      go_cut [0] (fun q wx => q = .pointer (some ⟨b, 0, none⟩) ∧ (∃ h blk held count, HX b h blk held count wx ∧ PInv h0 (A ++ p.take j) h blk held count) ∧ wr.grownBy wx (some b) ∧ Glob wx)
      case first =>
        have hidg : wr.grownBy wr (some b) := ⟨rfl, rfl, rfl, Nat.le_refl _, fun _ _ _ => rfl⟩
        by_cases h128 : held = 128
        · have hgd : ((held : Int) == 128) = true := by simp; omega
          have hp : PInv h0 (A ++ p.take j) (blockL h (wordsL blk) (count + held) false) blk 0 (count + held) := by
            have := HI.out
            subst h128
            exact this.full HX1.out.bl
          have HP := Lib.hid hp
          clear h128 hp
          go_wp2_with (first | (go_at_call 20; refine (blake_mixBlock b h blk held count false wr HGL.out HX1.out hb2 (HI.out.1) (by omega)).mono ?_; rintro e wM ⟨rfl, hM, hMg, hMG⟩; have m1 := hM.held; have m2 := hM.frozen 136; have HMX := Lib.hid hM; have HMG := Lib.hid hMg; have HMGG := Lib.hid hMG; clear hM hMg hMG) | fail)
          go_meet
          exact ⟨rfl, ⟨_, _, _, _, HMX.out.setHeld 0, HP.out⟩, grown_set HMG.out (.inl rfl), HMGG.out.setc hb2⟩
        · have hgd : ((held : Int) == 128) = false := by simp; omega
          have hp := HI.out.less (by have := HI.out.1; omega)
          have HP := Lib.hid hp
          clear h128 hp
          go_wp2_with fail
          go_meet
          exact ⟨rfl, ⟨_, _, _, _, HX1.out, HP.out⟩, hidg, HGL.out⟩
      case rest =>
        obtain ⟨rfl, ⟨h', blk', held', count', hx, hi⟩, hg, hG⟩ := hcut
        obtain ⟨q, hq⟩ : ∃ q, q = pr.take (128 - held') := ⟨_, rfl⟩
        have hh := hi.1
        have hql : q.length = min (128 - held') pr.length := by rw [hq]; simp
        have hrw : RdB wc (.slice (some ⟨ab, ao, none⟩) pr.length cap) pr := HRW.out.grown hg (fun a n c e => by injection e with e1; injection e1 with e1; rw [← e1]; exact hab)
        have HRC := Lib.hid hrw
        have hcells := (RdB.cells hrw).2
        have hsrc : ∀ i v, (Bs q)[i]? = some v → wc.cell? ((⟨ab, ao, none⟩ : Addr).add i) = some v := fun i v hv => by
          refine hcells i v ?_
          have hlt := (List.getElem?_eq_some_iff.1 hv).1
          rw [Bs_length, hql] at hlt
          rw [hq] at hv
          simp only [Bs, List.map_take, List.getElem?_take] at hv
          rw [if_pos (by omega)] at hv
          exact hv
        have hqs : ∀ i, gt q i < 256 := fun i => by
          rw [hq]
          by_cases h1 : i < 128 - held'
          · rw [gt_take h1]; exact HPS.out i
          · rw [gt_ge (by simp; omega)]; decide
        have k1' := hx.held
        have f1' := hx.frozen 136
        have HXC := Lib.hid hx
        have HIC := Lib.hid hi
        have HGC := Lib.hid hg
        have HGGC := Lib.hid hG
        have HQ := Lib.hid hq
        have HQL := Lib.hid hql
        have HSRC := Lib.hid hsrc
        have HQS := Lib.hid hqs
        have hhi : (held' : Int) < 128 := by omega
        have hhi2 : (held' : Int) ≤ 128 := by omega
        have hhi3 : held' ≤ 128 := by omega
        have hne : (128 = held') = False := by simp; omega
        clear hx hi hg hG hq hql hrw hcells hsrc hqs k1 f1
        go_wp2_with fail
        go_still_tail 9, (by kernel_rfl)
        change wpList _ _ _ _ _ wc.drew
        refine wpList_copy_own rfl _ _ 22 22 rfl 5 Tryd.underlying22 info5s b (8 + held') (128 - held') (128 - held') ⟨ab, ao, none⟩ pr.length cap rfl rfl (hcells h' blk' held' count').toArray 41 HXC.out.at_ (Bs q) ?hn HSRC.out ?hfit (Bs_one q) ?_
        case hn => rw [Bs_length, HQL.out, Nat.min_comm]
        case hfit => rw [Bs_length, HQL.out]; simp only [List.size_toArray, hcells, List.length_append, List.length_map, HXC.out.hl, Bs_length, HXC.out.bl, List.length_cons, List.length_nil]; omega
        obtain ⟨w5, hw5⟩ : ∃ w5, w5 = wc.drew.setRow b (((hcells h' blk' held' count').toArray.toList.take (8 + held')) ++ (Bs q ++ (hcells h' blk' held' count').toArray.toList.drop (8 + held' + (Bs q).length))).toArray := ⟨_, rfl⟩
        have hx5 : HX b h' (laidAt blk' q held') held' count' w5 := by
          have hxd : HX b h' blk' held' count' wc.drew := HXC.out.keep rfl
          have := hxd.splice (q := q) (by rw [HQL.out]; omega) HQS.out
          rw [List.append_assoc] at this
          rw [hw5]
          exact this
        have hg5 : wr.grownBy w5 (some b) := by
          have g := HGC.out
          rw [hw5]
          exact ⟨g.os, g.tape, g.output, by simp; exact g.size, fun k hk hr => (setRow_other _ b k _ (fun e => hr (by rw [e]))).trans (g.block k hk hr)⟩
        have hG5 : Glob w5 := by
          rw [hw5]
          exact HGGC.out.of (by simp) (fun k hk => setRow_other _ b k _ (by omega))
        rw [← hw5]
        obtain ⟨n, hn⟩ : ∃ n, n = q.length := ⟨_, rfl⟩
        have hbl : (Bs q).length = n := by rw [Bs_length, hn]
        have hnl : n = min (128 - held') pr.length := by rw [hn]; exact HQL.out
        have hi5 : Inv h0 (A ++ p.take (j + n)) h' (laidAt blk' q held') (held' + n) count' := by
          have hq0 : q ≠ [] := by
            intro e
            have : q.length = 0 := by rw [e]; rfl
            omega
          have := HIC.out.put HXC.out.bl hq0 (by omega)
          rw [← hn] at this
          have e : A ++ p.take j ++ q = A ++ p.take (j + n) := by
            rw [List.append_assoc, HQ.out, HPR.out]
            congr 1
            rw [List.take_add]
            congr 1
            rw [hnl]
            by_cases c : 128 - held' ≤ pr.length
            · rw [Nat.min_eq_left c]
            · rw [Nat.min_eq_right (by omega), HPR.out, List.take_length, List.take_of_length_le (by rw [← HPR.out]; omega)]
          rwa [e] at this
        have k5 := hx5.held
        have f5 := hx5.frozen 136
        obtain ⟨m, hm⟩ : ∃ m, m = held' + n := ⟨_, rfl⟩
        rw [← hm] at hi5
        have W7 : IntKind.i64.wrap ((held' : Int) + (n : Int)) = (m : Int) := by rw [IntWalk.i64_in _ (by omega)]; omega
        have HX5 := Lib.hid (hx5.setHeld m)
        have HG5 := Lib.hid (grown_set (i := 136) (v := .int .i64 (m : Int)) hg5 (.inl rfl))
        have HGG5 := Lib.hid (hG5.setc (c := b) (i := 136) (v := .int .i64 (m : Int)) hb2)
        have HI5 := Lib.hid hi5
        have hnp : n ≤ pr.length := by omega
        have hn0 : 0 < n := by omega
        have hnpI : (n : Int) ≤ (pr.length : Int) := by omega
        have hncI : (n : Int) ≤ (cap : Int) := by omega
        rw [hbl]
        have HNL := Lib.hid hnl
        have hdr : p.drop (j + n) = pr.drop n := by rw [HPR.out, List.drop_drop]
        have HDR := Lib.hid hdr
        have hjn : j + n ≤ p.length := by have := HPL.out; omega
        clear hx5 hg5 hG5 hi5 hw5 hn hbl hnl k1' f1' hm hdr
        by_cases hnc : n = cap
        · have hnc' : (cap = n) = True := by simp; omega
          have HNC := Lib.hid hnc
          clear hnc
          go_wp2
          refine ⟨⟨j + n, hjn, ?_, fun a n' c e => ?_, ⟨⟨_, _, _, _, HX5.out, HI5.out⟩, grown_trans HGR.out HG5.out, HGG5.out⟩⟩, by simp [sLen]; omega⟩
          · rw [HDR.out, List.drop_of_length_le (by have := HNC.out; omega)]
            exact rd_empty (by have := HNC.out; omega)
          · injection e with e1
            injection e1 with e1
            rw [← e1]; exact hab
        · have hnc' : (cap = n) = False := by simp; omega
          clear hnc
          go_wp2
          refine ⟨⟨j + n, hjn, ?_, fun a n' c e => ?_, ⟨⟨_, _, _, _, HX5.out, HI5.out⟩, grown_trans HGR.out HG5.out, HGG5.out⟩⟩, by simp [sLen]; omega⟩
          · have := rd_drop HR.out (s := n) (k := pr.length - n) (by omega) rfl
            rw [List.take_of_length_le (by simp)] at this
            rw [HDR.out]; exact this
          · injection e with e1
            injection e1 with e1
            rw [← e1]; exact hab
    · have hjl : j = p.length := by omega
      subst hjl
      rw [List.take_length] at hi
      have hp0 : p.drop p.length = [] := by simp
      rw [hp0] at hr
      obtain ⟨aoE, capE, rfl⟩ := hr.lenOf
      have HW := Lib.hid (show Wrote b h0 (A ++ p) w wr from ⟨⟨h, blk, held, count, hx, hi⟩, hg, hG⟩)
      clear hr ha hx hi hg hG hp0
      go_wp2
      exact bodyPost_end (v := .tuple #[]) (by simp [results, Tryd.results16, go_sem]) rfl ⟨rfl, HW.out⟩
end Go.Proofs.YtjpmldjafkbncaaDoor
