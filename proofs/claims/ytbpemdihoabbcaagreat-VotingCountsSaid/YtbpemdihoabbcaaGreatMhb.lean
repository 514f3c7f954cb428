/-
  Joined texts.
-/
import Derived.Shelf.SlIterI.Nil
import Derived.Shelf.SortM.Plain
import Derived.Shelf.SortM.SortNone
import Derived.Ground.GgzProg
import Derived.Ground.SlgmProg
import Derived.Shelf.SlGeneric
import Derived.Test.YtbpemdihoabbcaaGreatProg
import Derived.OwnWalkIn
import Derived.TacticsInMore
import Derived.Test.YtbpemdihoabbcaaGreatChecked
import Derived.WalkKit
import Derived.Lib.Hide
import Derived.Below
import Derived.Maps.OwnIn
import Derived.Maps.AppendAt
import Derived.RangeFuncBox
import Derived.Deep.MidRow
import Derived.StillTailTactics
import Derived.OrdersIn
import Derived.TacticsIn
import Derived.LoopNIn
import Derived.LoopIn
import Derived.Deep.WholeRow
import Derived.Great.BuildSlice
import Derived.Laws.Tables
import Derived.Laws.Rows
import Derived.Test.YtbpemdihoabbcaaGreatMha
set_option linter.unusedVariables false
set_option linter.unusedSimpArgs false
section
namespace Go.Proofs
open Go.Shelf
def Tryz.keysA_ren : Go.Shelf.Ren := ⟨fun | 7 => 141 | 10 => 145 | n => n, fun | 23 => 201 | 26 => 3 | 3 => 3 | 28 => 210 | 0 => 0 | 27 => 209 | 33 => 39 | 4 => 4 | n => n, fun | n => n⟩
theorem Tryz.keysA : Go.Proofs.SlLaysZI.n7 Tryz.prog Tryz.keysA_ren := {
 mixed := by kernel_rfl
 f7 := ⟨Tryz.f141.name, by decide, Tryz.func141.trans (congrArg some (by kernel_rfl))⟩
 f10 := ⟨Tryz.f145.name, by decide, Tryz.func145.trans (congrArg some (by kernel_rfl))⟩
 t0 := Tryz.underlying0
 a0 := Tryz.isAgg0
 z0 := Tryz.sizeOf0
 v0 := Tryz.zeroValue0
 t4 := Tryz.underlying4
 a4 := Tryz.isAgg4
 z4 := Tryz.sizeOf4
 v4 := Tryz.zeroValue4
 t23 := Tryz.underlying201
 a23 := Tryz.isAgg201
 z23 := Tryz.sizeOf201
 v23 := Tryz.zeroValue201
 t26 := Tryz.underlying3
 a26 := Tryz.isAgg3
 z26 := Tryz.sizeOf3
 v26 := Tryz.zeroValue3
 t27 := Tryz.underlying209
 a27 := Tryz.isAgg209
 z27 := Tryz.sizeOf209
 v27 := Tryz.zeroValue209
 t28 := Tryz.underlying210
 a28 := Tryz.isAgg210
 z28 := Tryz.sizeOf210
 v28 := Tryz.zeroValue210
 t33 := Tryz.underlying39
 a33 := Tryz.isAgg39
 z33 := Tryz.sizeOf39
 v33 := Tryz.zeroValue39 }
def Tryz.sortedA_ren : Go.Shelf.Ren := ⟨fun | 6 => 140 | 8 => 143 | 9 => 144 | 11 => 147 | 13 => 149 | 12 => 148 | 23 => 159 | 24 => 160 | 14 => 150 | 15 => 151 | 16 => 152 | 17 => 153 | 18 => 154 | 19 => 155 | 20 => 156 | 21 => 157 | 22 => 158 | 25 => 161 | 26 => 162 | 27 => 163 | 28 => 164 | 29 => 165 | 30 => 166 | 31 => 167 | n => n, fun | 26 => 3 | 28 => 210 | 24 => 22 | 0 => 0 | 3 => 3 | 37 => 190 | 48 => 225 | 50 => 227 | 4 => 4 | 40 => 219 | 39 => 218 | 45 => 145 | 5 => 5 | 9 => 9 | 51 => 228 | 55 => 232 | 57 => 234 | 58 => 59 | 33 => 39 | n => n, fun | n => n⟩
theorem Tryz.sortedA : Go.Proofs.SlLaysZI.n6 Tryz.prog Tryz.sortedA_ren := {
 mixed := by kernel_rfl
 f6 := ⟨Tryz.f140.name, by decide, Tryz.func140.trans (congrArg some (by kernel_rfl))⟩
 f8 := ⟨Tryz.f143.name, by decide, Tryz.func143.trans (congrArg some (by kernel_rfl))⟩
 f11 := ⟨Tryz.f147.name, by decide, Tryz.func147.trans (congrArg some (by kernel_rfl))⟩
 t0 := Tryz.underlying0
 a0 := Tryz.isAgg0
 z0 := Tryz.sizeOf0
 v0 := Tryz.zeroValue0
 t24 := Tryz.underlying22
 a24 := Tryz.isAgg22
 z24 := Tryz.sizeOf22
 v24 := Tryz.zeroValue22
 t26 := Tryz.underlying3
 a26 := Tryz.isAgg3
 z26 := Tryz.sizeOf3
 v26 := Tryz.zeroValue3
 t28 := Tryz.underlying210
 a28 := Tryz.isAgg210
 z28 := Tryz.sizeOf210
 v28 := Tryz.zeroValue210
 i26 := by kernel_rfl }
def Tryz.sortA_ren : Go.Shelf.Ren := ⟨fun | 5 => 144 | 8 => 149 | 7 => 148 | 19 => 159 | 20 => 160 | 10 => 150 | 11 => 151 | 12 => 152 | 13 => 153 | 14 => 154 | 15 => 155 | 16 => 156 | 17 => 157 | 18 => 158 | 30 => 161 | 31 => 162 | 32 => 163 | 33 => 164 | 34 => 165 | 35 => 166 | 40 => 167 | n => n, fun | 23 => 22 | 25 => 3 | 3 => 3 | 32 => 190 | 22 => 22 | 0 => 0 | 44 => 225 | 46 => 227 | 4 => 4 | 36 => 219 | 35 => 218 | 41 => 145 | 5 => 5 | 9 => 9 | 53 => 228 | 57 => 232 | 63 => 234 | 64 => 59 | n => n, fun | n => n⟩
theorem Tryz.sortA : Go.Proofs.SlLaysM.n5 Tryz.prog Tryz.sortA_ren := {
 mixed := by kernel_rfl
 f5 := ⟨Tryz.f144.name, by decide, Tryz.func144.trans (congrArg some (by kernel_rfl))⟩
 f7 := ⟨Tryz.f148.name, by decide, Tryz.func148.trans (congrArg some (by kernel_rfl))⟩
 f8 := Tryz.func149.trans (congrArg some (by kernel_rfl))
 f10 := ⟨Tryz.f150.name, by decide, Tryz.func150.trans (congrArg some (by kernel_rfl))⟩
 f11 := ⟨Tryz.f151.name, by decide, Tryz.func151.trans (congrArg some (by kernel_rfl))⟩
 f12 := ⟨Tryz.f152.name, by decide, Tryz.func152.trans (congrArg some (by kernel_rfl))⟩
 f13 := ⟨Tryz.f153.name, by decide, Tryz.func153.trans (congrArg some (by kernel_rfl))⟩
 f14 := ⟨Tryz.f154.name, by decide, Tryz.func154.trans (congrArg some (by kernel_rfl))⟩
 f15 := ⟨Tryz.f155.name, by decide, Tryz.func155.trans (congrArg some (by kernel_rfl))⟩
 f16 := ⟨Tryz.f156.name, by decide, Tryz.func156.trans (congrArg some (by kernel_rfl))⟩
 f17 := ⟨Tryz.f157.name, by decide, Tryz.func157.trans (congrArg some (by kernel_rfl))⟩
 f18 := ⟨Tryz.f158.name, by decide, Tryz.func158.trans (congrArg some (by kernel_rfl))⟩
 f19 := Tryz.func159.trans (congrArg some (by kernel_rfl))
 f20 := Tryz.func160.trans (congrArg some (by kernel_rfl))
 f30 := ⟨Tryz.f161.name, by decide, Tryz.func161.trans (congrArg some (by kernel_rfl))⟩
 f31 := Tryz.func162.trans (congrArg some (by kernel_rfl))
 f32 := Tryz.func163.trans (congrArg some (by kernel_rfl))
 f33 := ⟨Tryz.f164.name, by decide, Tryz.func164.trans (congrArg some (by kernel_rfl))⟩
 f34 := ⟨Tryz.f165.name, by decide, Tryz.func165.trans (congrArg some (by kernel_rfl))⟩
 f35 := ⟨Tryz.f166.name, by decide, Tryz.func166.trans (congrArg some (by kernel_rfl))⟩
 f40 := ⟨Tryz.f167.name, by decide, Tryz.func167.trans (congrArg some (by kernel_rfl))⟩
 t0 := Tryz.underlying0
 a0 := Tryz.isAgg0
 z0 := Tryz.sizeOf0
 v0 := Tryz.zeroValue0
 t3 := Tryz.underlying3
 a3 := Tryz.isAgg3
 z3 := Tryz.sizeOf3
 v3 := Tryz.zeroValue3
 t4 := Tryz.underlying4
 a4 := Tryz.isAgg4
 z4 := Tryz.sizeOf4
 v4 := Tryz.zeroValue4
 t5 := Tryz.underlying5
 a5 := Tryz.isAgg5
 z5 := Tryz.sizeOf5
 v5 := Tryz.zeroValue5
 t9 := Tryz.underlying9
 a9 := Tryz.isAgg9
 z9 := Tryz.sizeOf9
 v9 := Tryz.zeroValue9
 t22 := Tryz.underlying22
 a22 := Tryz.isAgg22
 z22 := Tryz.sizeOf22
 v22 := Tryz.zeroValue22
 t23 := Tryz.underlying22
 a23 := Tryz.isAgg22
 z23 := Tryz.sizeOf22
 v23 := Tryz.zeroValue22
 t25 := Tryz.underlying3
 a25 := Tryz.isAgg3
 z25 := Tryz.sizeOf3
 v25 := Tryz.zeroValue3
 t32 := Tryz.underlying190
 a32 := Tryz.isAgg190
 z32 := Tryz.sizeOf190
 v32 := Tryz.zeroValue190
 t35 := Tryz.underlying218
 a35 := Tryz.isAgg218
 z35 := Tryz.sizeOf218
 v35 := Tryz.zeroValue218
 t36 := Tryz.underlying219
 a36 := Tryz.isAgg219
 z36 := Tryz.sizeOf219
 v36 := Tryz.zeroValue219
 t41 := Tryz.underlying145
 a41 := Tryz.isAgg145
 z41 := Tryz.sizeOf145
 v41 := Tryz.zeroValue145
 t44 := Tryz.underlying225
 a44 := Tryz.isAgg225
 z44 := Tryz.sizeOf225
 v44 := Tryz.zeroValue225
 t46 := Tryz.underlying227
 a46 := Tryz.isAgg227
 z46 := Tryz.sizeOf227
 v46 := Tryz.zeroValue227
 t53 := Tryz.underlying228
 a53 := Tryz.isAgg228
 z53 := Tryz.sizeOf228
 v53 := Tryz.zeroValue228
 t57 := Tryz.underlying232
 a57 := Tryz.isAgg232
 z57 := Tryz.sizeOf232
 v57 := Tryz.zeroValue232
 t63 := Tryz.underlying234
 a63 := Tryz.isAgg234
 z63 := Tryz.sizeOf234
 v63 := Tryz.zeroValue234
 t64 := Tryz.underlying59
 a64 := Tryz.isAgg59
 z64 := Tryz.sizeOf59
 v64 := Tryz.zeroValue59 }
end Go.Proofs
end
section
namespace Go.Proofs.YtbpemdihoabbcaaGreat
open Go.RowKit Go.Maps Go.Sort Go.Shelf
theorem sorted_keys {β : Type} {m : List (Int × β)} (h : SrtK m) {ss : List Int} (hp : ss.Perm (m.map (·.1))) : ss.mergeSort (fun x y => decide (x ≤ y)) = m.map (·.1) := by
 have e : ss.mergeSort leI = (m.map (·.1)).mergeSort leI := mergeSort_of_perm_i hp
 rw [show (fun x y : Int => decide (x ≤ y)) = leI from rfl, e]
 refine List.mergeSort_of_pairwise ?_
 refine List.pairwise_map.2 (h.imp (fun {a b} hab => ?_))
 simp only [leI, decide_eq_true_eq]
 omega
theorem sortsA (m : Nat) : AnyZI.SortsIn Tryz.prog Tryz.sortedA_ren Fence.wide m :=
 ⟨fun blk off cap ss W hH hblk hsz => callsIn_wide.2 (AnyM.slices_Sort_int Tryz.sortA blk off cap ss W hH hblk hsz),
  fun p cap W => callsIn_wide.2 (AnyM.slices_Sort_int_none Tryz.sortA p cap W)⟩
set_option maxHeartbeats 1000000 in
theorem rising_I {β : Type} {c : Cod β} {b : Nat} {m : List (Int × β)} {w : World} (h : MapAt c b m w) (hm : m.length ≤ 1000000) :
 Calls Tryz.prog 135 #[.map (some b)] w fun e w' => ∃ v, e = .returned v ∧ w'.ownsRow w.heap.size 3 1 v m.length (m.map fun x => Value.int .i64 x.1) ∧ (v = .slice none 0 0 ↔ m = []) ∧ Below w.heap.size w w' := by
 refine (callsIn_wide (n := 6)).1 ?_
 have hbl := h.lt
 obtain ⟨nn, D0, hown, h1, h2⟩ := h.own
 have hs := MapAt.size h.srt hown h1
 have hperm := MapAt.keys h.srt hown h1
 have hseq : SeqGives Fence.wide 2 Tryz.prog 145 #[.pointer (some ⟨w.heap.size, 0, none⟩)] encZ (fun ss => ss.Perm (intKeys D0)) (Maps.size D0) (w.alloc (.cells #[.map (some b)] 201)) :=
  AnyZI.keys_gives (ρ := Tryz.keysA_ren) { Tryz.keysA with } Fence.wide _ trivial rfl (by omega) w.heap.size b nn D0 _ (by simp) (by simp) (hown.alloc _)
 have cK : ∀ mb W, CallsIn Fence.wide 5 Tryz.prog 141 #[.map mb] W fun e w' => e = .returned (.func (.func 145) #[] #[.pointer (some ⟨W.heap.size, 0, none⟩)]) ∧ w' = W.alloc (.cells #[.map mb] 201) := fun mb W => AnyZI.keys_in Tryz.keysA Fence.wide 5 trivial rfl mb W
 have cS := AnyZI.sorted_in Tryz.sortedA Fence.wide 5 trivial trivial trivial trivial rfl (by omega) (sortsA _) (enters_of Tryz.func144 (by kernel_rfl) rfl) 145 #[.pointer (some ⟨w.heap.size, 0, none⟩)] trivial (enters_of Tryz.func145 (by kernel_rfl) rfl) _ _ (by rw [hs]; unfold maxLen; omega) (by rw [hs]; omega) _ hseq
 change CallsIn _ _ Tryz.prog 140 _ _ _ at cS
 have hfK : Fence.wide.fn 141 := trivial
 have hfS : Fence.wide.fn 140 := trivial
 have Hd := Lib.hid (And.intro hs (And.intro hperm (And.intro h1 h.srt)))
 clear hs hperm h1 h2 hm
 refine callsIn_of_wp Tryz.func135 rfl trivial ?_ rfl
 simp only [Tryz.ntmps135, List.size_toArray, List.length_cons, List.length_nil, Nat.reduceAdd, Nat.reduceSub, Array.replicate_succ, Array.replicate_zero, List.push_toArray, List.append_toArray, List.nil_append, List.cons_append]
 gi_wp2_with (first
  | (gi_at_call 141; refine (cK _ _).mono ?_; rintro e w' ⟨rfl, rfl⟩)
  | (gi_at_call 140; refine cS.mono ?_; rintro e w' ⟨v, ss, rfl, hS, hrow, hnil, hb⟩)
  | fail)
 go_ret
 obtain ⟨hs, hperm, h1, hsrt⟩ := Hd.out
 have hp : ss.Perm (m.map (·.1)) := hS.trans hperm.symm
 have hl : ss.length = m.length := by rw [hp.length_eq]; simp
 have hsk := sorted_keys hsrt hp
 refine ⟨v, rfl, ?_, ?_, ((Below.refl _ w).alloc (Nat.le_refl _) _).trans (hb.mono (by simp))⟩
 · have : w'.ownsRow w.heap.size 3 1 v ss.length ((ss.mergeSort (fun x y => decide (x ≤ y))).map encZ) := ownsRow_base_a hrow (by simp)
   rw [hsk, hl] at this
   simpa [encZ, Function.comp_def] using this
 · rw [hnil, ← List.length_eq_zero_iff, ← List.length_eq_zero_iff, hl]
set_option maxHeartbeats 1000000 in
theorem rising_I_nil (w : World) : Calls Tryz.prog 135 #[.map none] w fun e w' => e = .returned (.slice none 0 0) ∧ Below w.heap.size w w' := by
 refine (callsIn_wide (n := 6)).1 ?_
 have hseq : SeqGives Fence.wide 2 Tryz.prog 145 #[.pointer (some ⟨w.heap.size, 0, none⟩)] encZ (fun ss : List Int => ss = []) 0 (w.alloc (.cells #[.map none] 201)) :=
  AnyZI.keys_gives_nil (ρ := Tryz.keysA_ren) { Tryz.keysA with } Fence.wide _ trivial rfl w.heap.size _ (by simp) (by simp)
 have cK : ∀ mb W, CallsIn Fence.wide 5 Tryz.prog 141 #[.map mb] W fun e w' => e = .returned (.func (.func 145) #[] #[.pointer (some ⟨W.heap.size, 0, none⟩)]) ∧ w' = W.alloc (.cells #[.map mb] 201) := fun mb W => AnyZI.keys_in Tryz.keysA Fence.wide 5 trivial rfl mb W
 have cS := AnyZI.sorted_in Tryz.sortedA Fence.wide 5 trivial trivial trivial trivial rfl (by omega) (sortsA _) (enters_of Tryz.func144 (by kernel_rfl) rfl) 145 #[.pointer (some ⟨w.heap.size, 0, none⟩)] trivial (enters_of Tryz.func145 (by kernel_rfl) rfl) _ 0 (Nat.zero_le _) (by omega) _ hseq
 change CallsIn _ _ Tryz.prog 140 _ _ _ at cS
 have hfK : Fence.wide.fn 141 := trivial
 have hfS : Fence.wide.fn 140 := trivial
 refine callsIn_of_wp Tryz.func135 rfl trivial ?_ rfl
 simp only [Tryz.ntmps135, List.size_toArray, List.length_cons, List.length_nil, Nat.reduceAdd, Nat.reduceSub, Array.replicate_succ, Array.replicate_zero, List.push_toArray, List.append_toArray, List.nil_append, List.cons_append]
 gi_wp2_with (first
  | (gi_at_call 141; refine (cK _ _).mono ?_; rintro e w' ⟨rfl, rfl⟩)
  | (gi_at_call 140; refine cS.mono ?_; rintro e w' ⟨v, ss, rfl, rfl, hrow, hnil, hb⟩; obtain rfl : v = .slice none 0 0 := hnil.2 rfl)
  | fail)
 go_ret
 exact ⟨rfl, ((Below.refl _ w).alloc (Nat.le_refl _) _).trans (hb.mono (by simp))⟩
end Go.Proofs.YtbpemdihoabbcaaGreat
end
section
namespace Go.Proofs.YtbpemdihoabbcaaGreat
open Go.RowKit
attribute [local go_sem] Oper.semAt_some
def Is (l : List Int) : List Value := l.map fun x => Value.int .i64 x
def OwnN (B : Nat) (v : Value) (l : List Int) (w : World) : Prop := w.ownsRow B 3 1 v l.length (Is l)
theorem infoI : (Tryz.prog.info? 3).map (fun i => (i.zero, i.size, i.bytes)) = some (some (.int .i64 0), 1, 8) := by kernel_rfl
theorem OwnN.nil (w : World) (B : Nat) : OwnN B (.slice none 0 0) [] w := World.ownsRow_nil w B _ 1
theorem OwnN.lenOf {B : Nat} {v : Value} {l : List Int} {w : World} (h : OwnN B v l w) : ∃ ao cap, v = .slice ao l.length cap := by
 rcases h.2 with ⟨rfl, e⟩ | ⟨g, cap, cur, rfl, -⟩
 · exact ⟨none, 0, by rw [e]⟩
 · exact ⟨_, _, rfl⟩
theorem OwnN.block {B : Nat} {v : Value} {l : List Int} {w : World} (h : OwnN B v l w) {k : Nat} (hk : v.ownBlock = some k) : B ≤ k ∧ k < w.heap.size := World.ownsRow.lt h k hk
theorem OwnN.of {B S' : Nat} {v : Value} {l : List Int} {w w' : World} (h : OwnN B v l w) (hS : S' ≤ B) (hk : ∀ k, v.ownBlock = some k → w'.heap[k]? = w.heap[k]?) : OwnN S' v l w' := by
 obtain ⟨h1, h2⟩ := h
 refine ⟨h1, ?_⟩
 rcases h2 with h2 | ⟨g, cap, cur, rfl, hb, hg, hn, hm, hs, ht⟩
 · exact .inl h2
 · exact .inr ⟨g, cap, cur, rfl, by omega, (hk g rfl).trans hg, hn, hm, hs, ht⟩
section
variable {F : Fence} {nF : Nat} {w : World} {ops : Array Oper} {rest : List Oper} {o : Oper} {a : Act} {Q : Exit → Act → World → Prop}
end
def RdN (w : World) (v : Value) (l : List Int) : Prop := ∃ ao cap, v = .slice ao l.length cap ∧ ∀ i (hi : i < l.length), ∃ b off, ao = some ⟨b, off, none⟩ ∧ w.cell? ⟨b, off + i, none⟩ = some (.int .i64 l[i]) ∧ b < w.heap.size
theorem OwnN.reads {B : Nat} {v : Value} {l : List Int} {w : World} (h : OwnN B v l w) : RdN w v l := by
 have h0 := h
 obtain ⟨hl, h2⟩ := h
 rcases h2 with ⟨rfl, e⟩ | ⟨g, cap, cur, rfl, _, hg, _, _, hs, ht⟩
 · exact ⟨none, 0, by rw [e], fun i hi => by omega⟩
 · refine ⟨some ⟨g, 0, none⟩, cap, rfl, fun i hi => ⟨g, 0, rfl, ?_, (h0.block rfl).2⟩⟩
   rw [World.cell?, hg]
   have h1 : (Is l)[i]? = some (.int .i64 l[i]) := by simp [Is, hi]
   rw [← ht, List.getElem?_take_of_lt (by omega)] at h1
   simpa using h1
end Go.Proofs.YtbpemdihoabbcaaGreat
end
section
namespace Go.Proofs.YtbpemdihoabbcaaGreat
open Go.RowKit
theorem region_meet {n : Nat} {P : Program} {c : Code} {K : Act → World → Prop} {Q : Exit → Act → World → Prop} {a : Act} {w : World} {R : Act → World → Prop} (h : c.wp P (Exit.then R (fun _ _ _ => False)) a w) (hK : ∀ a w, R a w → K a w) : c.wpIn Fence.wide n P (Exit.then K Q) a w :=
 wpIn_mono (wpIn_wide.2 h) (fun e a w hq => by cases e <;> first | exact hK _ _ hq | exact hq.elim)
section
variable {P : Program} {ops : Array Oper} {md : Region.Mode} {w : World} {n : Nat}
theorem wpIn_of_still {o : Oper} {a : Act} {K : Act → Prop} {K' : Act → World → Prop} {Q' : Exit → Act → World → Prop} (h : ∀ a, K a → K' a w) (hh : o.still P a w K) : o.wpIn Fence.wide n P a w K' Q' := by
 unfold Oper.still at hh
 unfold Oper.wpIn
 refine ⟨fun f _ => trivial, ?_⟩
 have e : o.semAt Fence.wide.round a.eval = execOp a.eval o := rfl
 rw [e]
 generalize (execOp a.eval o).run P w = r at *
 cases r with
 | ok x w' =>
  cases x <;> simp only [Oper.stillUpon] at hh <;> simp only [Oper.uponIn]
  case enter f args =>
   obtain ⟨rfl, v, hc, hn⟩ := hh
   exact ⟨fun h => by simp [Fence.wide] at h, (callsIn_wide.2 hc).mono fun e w'' ⟨he, hw⟩ => by subst he; subst hw; exact h _ hn⟩
  all_goals (obtain ⟨rfl, h2⟩ := hh; exact h _ h2)
 | halt x w' => simp only [Oper.stillUpon] at hh
theorem wpOpIn_of_stOp {i : Nat} {a : Act} {K : Act → Prop} {K' : Act → World → Prop} {Q' : Exit → Act → World → Prop} (h : ∀ a, K a → K' a w) (hh : stOp P ops w i K a) : wpOpIn Fence.wide n P ops Q' i K' a w := by
 unfold stOp at hh
 unfold wpOpIn
 split
 · rename_i ho; simp only [ho] at hh; exact h _ hh
 · rename_i o ho
   simp only [ho] at hh
   split
   · rename_i hw; simp only [hw, if_true] at hh; exact wpIn_of_still h hh
   · rename_i hw; simp only [hw] at hh; exact ⟨fun f _ => trivial, h _ hh⟩
theorem wpAnyIn_of_head {m g : Nat} {L : Array Bool → Act → Prop} {Q' : Exit → Act → World → Prop} (hL : ∀ listed a, L listed a → wpAnyIn Fence.wide n P md ops Q' g listed a w) :
 ∀ (f : Nat) (listed : Array Bool) (a : Act), wpAnyL P md ops w m L f listed a → wpAnyIn Fence.wide n P md ops Q' (f + g) listed a w
 | 0, listed, a, h => by rw [Nat.zero_add]; exact hL _ _ h
 | f + 1, listed, a, h => by
  rw [show f + 1 + g = (f + g) + 1 by omega]
  exact ⟨fun h0 => absurd h0 h.1, fun i hi => wpOpIn_of_stOp (fun a' h' => wpAnyIn_of_head hL f _ a' h') (h.2 i hi).2⟩
theorem wpAnyIn_of_seq {Q' : Exit → Act → World → Prop} : ∀ (l : List Oper) (k : Nat) (listed : Array Bool) (a : Act) (w : World), (∀ j, l[j]? = ops[k + j]?) →
 Region.seqB md ops l.length k listed = true → wpListIn Fence.wide n P ops Q' l a w → wpAnyIn Fence.wide n P md ops Q' l.length listed a w
 | [], _, _, _, _, _, hB, h => ⟨by simpa [Region.seqB] using hB, h⟩
 | o :: l, k, listed, a, w, hl, hB, h => by
  have h0 : ops[k]? = some o := by simpa using (hl 0).symm
  simp only [List.length_cons, Region.seqB, Bool.and_eq_true, decide_eq_true_eq] at hB
  refine ⟨fun h1 => (by rw [hB.1] at h1; cases h1), fun i hi => ?_⟩
  rw [hB.1] at hi
  have hik : i = k := by simpa using hi
  subst hik
  have hw : wpOpIn Fence.wide n P ops Q' i (wpListIn Fence.wide n P ops Q' l) a w := by unfold wpOpIn; simp only [h0]; exact h
  exact wpOpIn_mono (fun a' w' h' => wpAnyIn_of_seq l (i + 1) _ a' w' (fun j => by have := hl (j + 1); simpa [Nat.add_assoc, Nat.add_comm 1 j] using this) hB.2 h') hw
theorem wpIn_region_still_tail {id : Nat} {Q : Exit → Act → World → Prop} {a : Act} {w : World} {l : List Oper} (m : Nat) (hm : P.follows .mixedOrders = true) (hB : Region.lexTailB .any l.toArray m = true)
 (h : wpStill P l.toArray { w with drawn := w.drawn + 1 } (fun a' => wpListIn Fence.wide n P l.toArray Q (l.drop m) a' { w with drawn := w.drawn + 1 }) (l.take m) a) : (Code.region id l.toArray true).wpIn Fence.wide n P Q a w := by
 simp only [Region.lexTailB, Bool.and_eq_true, decide_eq_true_eq] at hB
 obtain ⟨⟨⟨⟨hsel, hn⟩, hs⟩, hc⟩, hlex⟩ := hB
 have hn' : m < l.length := by simpa using hn
 have htl : (l.take m).length = m := by simp; omega
 have hdl : (l.drop m).length = l.toArray.size - m := by simp
 have inv0 : HeadInv .any l.toArray m (Array.replicate l.toArray.size false) :=
  ⟨by simp, fun j oj _ hl => (by rw [getD_replicate_false] at hl; cases hl), fun t _ ht => getD_in (by simpa using ht) (getD_replicate_false _ _)⟩
 have H := wpAnyL_lex (md := .any) (g := l.toArray.size - m) hsel hs hc hn (l.take m) 0 _ a (fun j hj => by
  have hj' : j < m := by rw [htl] at hj; exact hj
  simp [hj']) (by simpa using htl) inv0 (by rw [htl]; exact hlex) h
 refine wpIn_region_any hm ?_
 have := wpAnyIn_of_head (n := n) (Q' := Q) (g := l.toArray.size - m) (fun listed a' hL => by
  have := wpAnyIn_of_seq (n := n) (md := .any) (Q' := Q) (l.drop m) m listed a' { w with drawn := w.drawn + 1 } (fun j => by simp [List.getElem?_drop]) (by rw [hdl]; exact hL.1) hL.2
  rwa [hdl] at this) _ _ _ H
 rw [htl, show m + (l.toArray.size - m) = l.toArray.size by omega] at this
 exact this
end
end Go.Proofs.YtbpemdihoabbcaaGreat
end
section
namespace Go.Proofs.YtbpemdihoabbcaaGreat
open Go.RowKit Go.Maps Go.Shelf
attribute [local go_sem] Oper.semAt_some
theorem Only.undrew {Ψ Φ : FP} {A B : World} (h : Only Ψ Φ A.drew B) : Only Ψ Φ A B := ⟨⟨h.grow.os, h.grow.tape, h.grow.output, h.grow.size⟩, h.block⟩
theorem pre_snoc {α : Type} {xs : List α} {k : Nat} (h : k < xs.length) : xs.take k ++ [xs[k]] = xs.take (k + 1) := by rw [List.take_succ_eq_append_getElem h]
theorem OwnN.at {B : Nat} {v : Value} {l : List Int} {w : World} (h : OwnN B v l w) {k : Nat} (hk : k < l.length) : ∃ b cap, v = .slice (some ⟨b, 0, none⟩) l.length cap ∧ w.cell? ⟨b, k, none⟩ = some (.int .i64 l[k]) ∧ B ≤ b ∧ b < w.heap.size := by
 obtain ⟨ao, cap, rfl, h2⟩ := h.reads
 obtain ⟨b, off, rfl, e2, e3⟩ := h2 k hk
 rcases h.2 with ⟨e, _⟩ | ⟨g, c', cur, e, hb, _⟩
 · cases e
 · have : (some ⟨b, off, none⟩ : Option Addr) = some ⟨g, 0, none⟩ := by injection e
   injection this with this
   injection this with t1 t2 t3
   subst t1 t2
   rw [Nat.zero_add] at e2
   exact ⟨b, cap, rfl, e2, hb, e3⟩
theorem GrAt.look_I {g : Nat} {M : Cls Int} {F : FP} {w : World} (h : GrAt codI 186 g M F w) {a b : Int} (ha : (Lit.int .i64 a).wf = true) (hb : (Lit.int .i64 b).wf = true) :
 ∃ mv mi, w.cell? ⟨g, 0, none⟩ = some (.map mv) ∧ (Instr.lookup 184 (.map mv) (.int .i64 a) false).run Tryz.prog w = .ok (.map mi) w ∧
  (Instr.lookup 201 (.map mi) (.int .i64 b) false).run Tryz.prog w = .ok (codI.enc ((cget M a b).getD (0 : Int))) w := by
 have hu1 : Tryz.prog.underlying 184 = some (.map 3 201) := Tryz.underlying184
 have hu2 : Tryz.prog.underlying 201 = some (.map 3 3) := Tryz.underlying201
 have hz1 : ∀ w, (zeroValue 201).run Tryz.prog w = .ok (codM.enc none) w := fun w => Tryz.zeroValue201 w
 have hz2 : ∀ w, (zeroValue 3).run Tryz.prog w = .ok (codI.enc (0 : Int)) w := fun w => Tryz.zeroValue3 w
 obtain ⟨_, _, _, (⟨rfl, hh⟩ | ⟨B, C, rm, cm, hh, hM, _⟩)⟩ := h
 · exact ⟨none, none, by rw [World.cell?, hh]; rfl, nil_look hu1 (hz1 w) ha false, nil_look hu2 (hz2 w) hb false⟩
 · have hl := hM.row.map.look (z0 := none) hu1 (hz1 w) ha
   cases hs : sget rm a with
   | none =>
    rw [hs] at hl
    refine ⟨some B, none, by rw [World.cell?, hh]; rfl, hl, ?_⟩
    have hr := hM.row.isNil hs
    have : cget M a b = none := by rw [cget, hr]; rfl
    rw [this]
    exact nil_look hu2 (hz2 w) hb false
   | some x =>
    obtain ⟨b', rfl, _, _, h3⟩ := hM.row.at_ a x hs
    rw [hs] at hl
    exact ⟨some B, some b', by rw [World.cell?, hh]; rfl, hl, h3.look hu2 (hz2 w) hb⟩
theorem GrAt.rises_row_I {g : Nat} {M : Cls Int} {F : FP} {w : World} (h : GrAt codI 186 g M F w) (hlen : M.length ≤ 100000) {a : Int} (ha : (Lit.int .i64 a).wf = true) :
 ∃ mv mi, w.cell? ⟨g, 0, none⟩ = some (.map mv) ∧ (Instr.lookup 184 (.map mv) (.int .i64 a) false).run Tryz.prog w = .ok (.map mi) w ∧
  Calls Tryz.prog 135 #[.map mi] w (fun e w' => ∃ v, e = .returned v ∧ OwnN w.heap.size v ((rowOf M a).map (·.1)) w' ∧ Below w.heap.size w w') := by
 have hu1 : Tryz.prog.underlying 184 = some (.map 3 201) := Tryz.underlying184
 have hz1 : ∀ w, (zeroValue 201).run Tryz.prog w = .ok (codM.enc none) w := fun w => Tryz.zeroValue201 w
 have hnil : rowOf M a = [] → Calls Tryz.prog 135 #[.map none] w (fun e w' => ∃ v, e = .returned v ∧ OwnN w.heap.size v ((rowOf M a).map (·.1)) w' ∧ Below w.heap.size w w') := fun e => by
  refine (rising_I_nil w).mono ?_
  rintro _ w' ⟨rfl, hb⟩
  rw [e]
  exact ⟨_, rfl, OwnN.nil _ _, hb⟩
 have hr := row_length M a
 obtain ⟨_, _, _, (⟨rfl, hh⟩ | ⟨B, C, rm, cm, hh, hM, _⟩)⟩ := h
 · exact ⟨none, none, by rw [World.cell?, hh]; rfl, nil_look hu1 (hz1 w) ha false, hnil rfl⟩
 · have hl := hM.row.map.look (z0 := none) hu1 (hz1 w) ha
   cases hs : sget rm a with
   | none =>
    rw [hs] at hl
    exact ⟨some B, none, by rw [World.cell?, hh]; rfl, hl, hnil (hM.row.isNil hs)⟩
   | some x =>
    obtain ⟨b', rfl, _, _, h3⟩ := hM.row.at_ a x hs
    rw [hs] at hl
    refine ⟨some B, some b', by rw [World.cell?, hh]; rfl, hl, (rising_I h3 (by omega)).mono ?_⟩
    rintro e w' ⟨v, rfl, ho, _, hb⟩
    refine ⟨v, rfl, ?_, hb⟩
    unfold OwnN Is
    rw [List.length_map, List.map_map]
    exact ho
theorem GrAt.wf {β : Type} {c : Cod β} {T : TypeId} {g : Nat} {M : Cls β} {F : FP} {w : World} (h : GrAt c T g M F w) {x : (Int × Int) × β} (hx : x ∈ M) : (Lit.int .i64 x.1.1).wf = true ∧ (Lit.int .i64 x.1.2).wf = true := by
 obtain ⟨_, _, _, (⟨rfl, hh⟩ | ⟨B, C, rm, cm, hh, hM, _⟩)⟩ := h
 · cases hx
 · have hr : (x.1.2, x.2) ∈ rowOf M x.1.1 := mem_rowOf.2 hx
   obtain ⟨b, hb⟩ := hM.row.has x.1.1 (List.ne_nil_of_mem hr)
   obtain ⟨b', e, _, _, h3⟩ := hM.row.at_ _ _ hb
   exact ⟨hM.row.map.wf (sget_mem hb), h3.wf hr⟩
set_option maxHeartbeats 4000000 in
set_option maxRecDepth 100000 in
theorem row_iter_I (n : Nat) (bx ba g : Nat) (M : Cls Int) (F : FP) (s : Int) (w : World) (hbx : w.cell? ⟨bx, 0, none⟩ = some (.pointer (some ⟨g, 0, none⟩))) (hba : w.cell? ⟨ba, 0, none⟩ = some (.int .i64 s)) (h : GrAt codI 186 g M F w) (hlen : M.length ≤ 100000) (hs : (Lit.int .i64 s).wf = true)
 (G : FP) (hGb : G bx) (hGa : G ba) (hGF : ∀ k, F k → G k) :
 Iter Tryz.prog n 134 #[.pointer (some ⟨bx, 0, none⟩), .pointer (some ⟨ba, 0, none⟩)] (fun x : Int × Int => #[.int .i64 x.1, codI.enc x.2]) (rowOf M s) G w := by
 intro lp B Ψ J Jx Φ0 W hgw hG hΨ hΦ0 hJ hJx hround h0
 have hc1 : W.cell? ⟨bx, 0, none⟩ = some (.pointer (some ⟨g, 0, none⟩)) := (World.cell?_of_block (hG bx hGb).2).trans hbx
 have hc2 : W.cell? ⟨ba, 0, none⟩ = some (.int .i64 s) := (World.cell?_of_block (hG ba hGa).2).trans hba
 have hW : GrAt codI 186 g M F W := h.keep hgw (fun k hk => (hG k (hGF k hk)).2)
 have hWd : GrAt codI 186 g M F W.drew := hW.keep ⟨rfl, rfl, rfl, Nat.le_refl _⟩ (fun _ _ => rfl)
 obtain ⟨mv, mi, hcm, hlm, hrise⟩ := hWd.rises_row_I hlen hs
 have hcm : W.cell? ⟨g, 0, none⟩ = some (.map mv) := hcm
 obtain ⟨hs1, hs2, hs3⟩ := hJ _ _ _ h0
 have mixed : Tryz.prog.follows .mixedOrders = true := by kernel_rfl
 refine callsIn_of_wp Tryz.func134 rfl trivial ?_ rfl
 simp only [Tryz.ntmps134, List.size_toArray, List.length_cons, List.length_nil, Nat.reduceAdd, Nat.reduceSub, Array.replicate_succ, Array.replicate_zero, List.push_toArray, List.append_toArray, List.nil_append, List.cons_append]
 have hsrt := hW.1
 obtain ⟨xs, hxs⟩ : ∃ xs, xs = rowOf M s := ⟨_, rfl⟩
 obtain ⟨ks, hks⟩ : ∃ ks, ks = (rowOf M s).map (·.1) := ⟨_, rfl⟩
 rw [← hks] at hrise
 rw [← hxs] at hround ⊢
 have hkl : ks.length = xs.length := by rw [hks, hxs]; simp
 have hbig : (ks.length : Int) ≤ 100000 := by rw [hkl, hxs]; have := row_length M s; omega
 have HXS := Lib.hid hxs
 have HKS := Lib.hid (And.intro hks (And.intro hkl hsrt))
 clear hxs hks hkl hsrt
 have HW := Lib.hid hW
 have HRS := Lib.hid hrise
 have HRD := Lib.hid hround
 have HJ := Lib.hid hJ
 have HP := Lib.hid hΨ
 have HP0 := Lib.hid hΦ0
 have HG := Lib.hid hG
 have HGF := Lib.hid (And.intro hGb (And.intro hGa hGF))
 have HH0 := Lib.hid h0
 have HS3 := Lib.hid hs3
 have HS1 := Lib.hid hs1
 have HL := Lib.hid hlen
 have HWF := Lib.hid hs
 clear hW hWd hrise hround hJ hJx hG hΨ hΦ0 hbx hba hGb hGa hGF h0 hs1 hs3 hlen hs h
 gi_wp2_with fail
 refine region_meet (R := fun a wc => ∃ co ccap, a = { tmps := #[.func (.yield lp) #[] #[], .pointer (some ⟨bx, 0, none⟩), .pointer (some ⟨ba, 0, none⟩), undef, undef, undef, .pointer (some ⟨g, 0, none⟩), .bool false, .pointer (some ⟨g, 0, none⟩), .pointer (some ⟨g, 0, none⟩), .pointer (some ⟨g, 0, none⟩), .map mv, .int .i64 s, .map mi, .slice co ks.length ccap, .int .i64 ks.length, .int .i64 0, undef, undef, undef, undef, undef, undef, undef, undef, undef, undef, undef, undef, undef, undef, undef, undef], defers := [] } ∧ OwnN W.drew.heap.size (.slice co ks.length ccap) ks wc ∧ Below W.drew.heap.size W.drew wc) ?_ ?_
 · go_region_with (first | (go_at_call 135; refine HRS.out.mono ?_; rintro e wc ⟨vc, rfl, hoc, hbc⟩; obtain ⟨co, ccap, rfl⟩ := hoc.lenOf; have HOC := Lib.hid hoc; have HBC := Lib.hid hbc; clear hoc hbc) | fail)
   all_goals exact ⟨co, ccap, rfl, HOC.out, HBC.out⟩
 rintro _ wc ⟨co, ccap, rfl, hoc, hbc⟩
 have HOC := Lib.hid hoc
 have HBC := Lib.hid hbc
 clear hoc hbc
 have hcs : W.heap.size ≤ wc.heap.size := HBC.out.size
 have hbc' : Below W.heap.size W wc := ((Below.refl _ W).drew).trans (show Below W.heap.size W.drew wc from HBC.out)
 have HO1 := Lib.hid (Only.of_later (Ψ := Ψ) (Φ := Φ0) hbc')
 have hJc : J [] Φ0 wc := HS3.out wc (Grow.of_below hbc') (fun k hk => hbc'.block k (hk.elim (fun h => by omega) (fun h => (HS1.out k h).2)))
 have HJC := Lib.hid hJc
 have hkeep : ∀ wr, Only Ψ Φ0 wc wr → OwnN W.heap.size (.slice co ks.length ccap) ks wr ∧ GrAt codI 186 g M F wr ∧ wr.cell? ⟨bx, 0, none⟩ = some (.pointer (some ⟨g, 0, none⟩)) ∧ wr.cell? ⟨ba, 0, none⟩ = some (.int .i64 s) := fun wr ho => by
  have hgk : ∀ k, G k → wr.heap[k]? = W.heap[k]? := fun k hk => by
   have hkW : k < W.heap.size := by have := (HG.out k hk).1; have := hgw.size; omega
   rw [ho.block k (by omega) (fun h => (HP.out k h).2 hk) (fun h => HP0.out k h hk)]
   exact hbc'.block k hkW
  refine ⟨OwnN.of HOC.out (Nat.le_refl _) (fun k hk => ?_), HW.out.keep ((Grow.of_below hbc').trans ho.grow) (fun k hk => hgk k (HGF.out.2.2 k hk)), (World.cell?_of_block (hgk bx HGF.out.1)).trans hc1, (World.cell?_of_block (hgk ba HGF.out.2.1)).trans hc2⟩
  obtain ⟨h1, h2⟩ := HOC.out.block hk
  have h1 : W.heap.size ≤ k := h1
  exact ho.block k h2 (fun h => by have := (HP.out k h).1; omega) (fun h => by have := (HS1.out k h).2; omega)
 have HK := Lib.hid hkeep
 clear hkeep hJc hbc' hc1 hc2 hlm hcm
 gi_wp2_with fail
 gi_loopw [16] (fun r wr => ∃ (k : Nat) (Φ : FP), k ≤ ks.length ∧ r = .int .i64 k ∧ J (xs.take k) Φ wr ∧ Only Ψ Φ0 wc wr ∧ (∀ j, Φ j → Φ0 j ∨ wc.heap.size ≤ j)) (fun r wr => ks.length - (intOf r).toNat)
 case atStart => exact ⟨0, Φ0, Nat.zero_le _, rfl, HJC.out, Only.refl _ _ _, fun j h => .inl h⟩
 case round =>
  obtain ⟨k, Φ, hk, rfl, hJ2, ho2, hn2⟩ := hrel
  obtain ⟨hkl, hkl2, hsrt⟩ := HKS.out
  by_cases hlt : k < ks.length
  · have hlt' : (k : Int) < ks.length := by omega
    obtain ⟨hoW, hGW, cb, ca⟩ := HK.out wr ho2
    obtain ⟨b, cap, hv, hcell, hbl, hbu⟩ := hoW.at hlt
    injection hv with hv1 hv2 hv3
    subst hv1
    have hltx : k < xs.length := by omega
    obtain ⟨x, hx⟩ : ∃ x, x = xs[k] := ⟨_, rfl⟩
    have hy : ks[k] = x.1 := by simp only [hkl, hx, HXS.out, List.getElem_map]
    rw [hy] at hcell
    have hxm : x ∈ rowOf M s := by rw [← HXS.out, hx]; exact List.getElem_mem _
    have hxM := (mem_rowOf (x := x)).1 hxm
    have hwfx := hGW.wf hxM
    have hget : cget M s x.1 = some x.2 := hsrt.get.2 hxM
    obtain ⟨mv', mi', cm, l1, l2⟩ := (hGW.keep (w' := wr.drew) ⟨rfl, rfl, rfl, Nat.le_refl _⟩ (fun _ _ => rfl)).look_I (a := s) (b := x.1) HWF.out hwfx.2
    rw [hget, Option.getD_some] at l2
    have cm : wr.cell? ⟨g, 0, none⟩ = some (.map mv') := cm
    have htk : xs.take k ++ [x] = xs.take (k + 1) := by rw [hx]; exact pre_snoc hltx
    have hpre : (xs.take k ++ [x]) <+: xs := by rw [htk]; exact List.take_prefix _ _
    obtain ⟨q1, q2, q3⟩ := HJ.out _ _ _ hJ2
    have hJd : J (xs.take k) Φ wr.drew := q3 wr.drew ⟨rfl, rfl, rfl, Nat.le_refl _⟩ (fun _ _ => rfl)
    obtain ⟨fn, tm, asg, bd, hyy, hR⟩ := HRD.out (xs.take k) x Φ wr.drew hpre hJd
    dsimp only at hyy
    obtain ⟨yv, hyv⟩ : ∃ yv, yv = x.1 := ⟨_, rfl⟩
    rw [← hyv] at hcell hyy l2
    obtain ⟨ev, hev⟩ : ∃ ev, ev = codI.enc x.2 := ⟨_, rfl⟩
    rw [← hev] at hyy l2
    have HT := Lib.hid htk
    have HPR := Lib.hid hpre
    have HO2 := Lib.hid ho2
    have HN2 := Lib.hid hn2
    have HR := Lib.hid hR
    clear htk hpre q1 q2 q3 hx hy hyv hev hJ2 hJd ho2 hn2 hR hxm hxM hget hwfx hoW hGW hkl hkl2 hsrt hv2 hv3
    gi_wp2_with fail
    refine wpIn_region_still_tail 10 mixed (by kernel_rfl) ?_
    simp only [List.take_succ_cons, List.take_zero, List.drop_succ_cons, List.drop_zero]
    change wpStill _ _ wr.drew _ _ _
    repeat still_step
    refine wpStill_nil ?_
    change wpListIn _ _ _ _ _ _ _ wr.drew
    gi_wp2
    refine HR.out.mono ?_
    rintro e W' ⟨Φ', hn', ho', (⟨rfl, hJ'⟩ | ⟨rfl, hJ'⟩)⟩
    · have ho3 : Only Ψ Φ0 wc W' := HO2.out.trans (Only.undrew ho') HN2.out
      have hn3 : ∀ j, Φ' j → Φ0 j ∨ wc.heap.size ≤ j := fun j hj => (hn' j hj).elim (HN2.out j) (fun h => .inr (by have := HO2.out.grow.size; have : wr.heap.size ≤ j := h; omega))
      gi_wp2
      exact ⟨⟨k + 1, Φ', hlt, by go_num, by rw [← HT.out]; exact hJ', ho3, hn3⟩, by simp [intOf]; omega⟩
    · have ho3 : Only Ψ Φ0 wc W' := HO2.out.trans (Only.undrew ho') HN2.out
      have hn3 : ∀ j, Φ' j → Φ0 j ∨ wc.heap.size ≤ j := fun j hj => (hn' j hj).elim (HN2.out j) (fun h => .inr (by have := HO2.out.grow.size; have : wr.heap.size ≤ j := h; omega))
      gi_wp2
      refine bodyPost_ret (results_none rfl _ _ _) rfl ?_
      exact ⟨⟨_, rfl⟩, Φ', fun j hj => (hn3 j hj).imp id (fun h => by omega), HO1.out.trans ho3 (fun j h => .inl h), .inr ⟨_, HPR.out, hJ'⟩⟩
  · have hkn : k = ks.length := by omega
    subst hkn
    rw [hkl2, List.take_length] at hJ2
    clear hkl hkl2 hsrt
    gi_wp2
    refine bodyPost_end (results_none rfl _ _ _) rfl ?_
    exact ⟨⟨_, rfl⟩, Φ, fun j hj => (hn2 j hj).imp id (fun h => by omega), HO1.out.trans ho2 (fun j h => .inl h), .inl hJ2⟩
theorem enters_row1_I : ∀ args w, (callFunc 134 args).run Tryz.prog w = .ok (.enter 134 args) w := enters_of Tryz.func134 (by kernel_rfl) rfl
theorem grid_row_I (p : Option Addr) (s : Int) (w : World) : Calls Tryz.prog 124 #[.pointer p, .int .i64 s] w fun e w' => e = .returned (.func (.func 134) #[] #[.pointer (some ⟨w.heap.size, 0, none⟩), .pointer (some ⟨w.heap.size + 1, 0, none⟩)]) ∧ w' = (w.alloc (.cells #[.pointer p] 126)).alloc (.cells #[.int .i64 s] 3) := by
 go_enter Tryz.func124, Tryz.ntmps124
 go_wp2
 go_ret
 exact ⟨rfl, rfl⟩
end Go.Proofs.YtbpemdihoabbcaaGreat
end
section
namespace Go.Proofs
open Go.Shelf
def Tryz.keysV_ren : Go.Shelf.Ren := ⟨fun | 7 => 142 | 10 => 146 | n => n, fun | 23 => 166 | 26 => 3 | 3 => 28 | 28 => 210 | 0 => 0 | 27 => 209 | 33 => 39 | 4 => 4 | n => n, fun | n => n⟩
theorem Tryz.keysV : Go.Proofs.SlLaysZI.n7 Tryz.prog Tryz.keysV_ren := {
 mixed := by kernel_rfl
 f7 := ⟨Tryz.f142.name, by decide, Tryz.func142.trans (congrArg some (by kernel_rfl))⟩
 f10 := ⟨Tryz.f146.name, by decide, Tryz.func146.trans (congrArg some (by kernel_rfl))⟩
 t0 := Tryz.underlying0
 a0 := Tryz.isAgg0
 z0 := Tryz.sizeOf0
 v0 := Tryz.zeroValue0
 t4 := Tryz.underlying4
 a4 := Tryz.isAgg4
 z4 := Tryz.sizeOf4
 v4 := Tryz.zeroValue4
 t23 := Tryz.underlying166
 a23 := Tryz.isAgg166
 z23 := Tryz.sizeOf166
 v23 := Tryz.zeroValue166
 t26 := Tryz.underlying3
 a26 := Tryz.isAgg3
 z26 := Tryz.sizeOf3
 v26 := Tryz.zeroValue3
 t27 := Tryz.underlying209
 a27 := Tryz.isAgg209
 z27 := Tryz.sizeOf209
 v27 := Tryz.zeroValue209
 t28 := Tryz.underlying210
 a28 := Tryz.isAgg210
 z28 := Tryz.sizeOf210
 v28 := Tryz.zeroValue210
 t33 := Tryz.underlying39
 a33 := Tryz.isAgg39
 z33 := Tryz.sizeOf39
 v33 := Tryz.zeroValue39 }
end Go.Proofs
end
section
namespace Go.Proofs.YtbpemdihoabbcaaGreat
open Go.RowKit
structure RowTy (P : Program) (α : Type) where
 T : TypeId
 S : TypeId
 k : Nat
 f : α → List Value
 len : ∀ x, (f x).length = k
 one : ∀ x, ∀ u ∈ f x, u.oneCell' = true
 pos : 0 < k
 small : k ≤ 1000
 slice : P.underlying S = some (.slice T)
 info : ∃ i0 z b, P.info? T = some i0 ∧ i0.zero = some (.agg z) ∧ i0.size = k ∧ z.size = k ∧ i0.bytes = b ∧ b ≤ 8000
 row : ∃ d, P.underlying T = some d ∧ d.isRow = true
section
variable {P : Program} {α : Type} (r : RowTy P α)
def RowTy.all (xs : List α) : List Value := xs.flatMap r.f
theorem RowTy.all_one (x : α) : r.all [x] = r.f x := by simp [RowTy.all]
theorem RowTy.all_cons (x : α) (xs : List α) : r.all (x :: xs) = r.f x ++ r.all xs := by simp [RowTy.all]
theorem RowTy.all_append (a b : List α) : r.all (a ++ b) = r.all a ++ r.all b := by simp [RowTy.all]
theorem RowTy.all_len : ∀ xs : List α, (r.all xs).length = xs.length * r.k
 | [] => by simp [RowTy.all]
 | x :: xs => by rw [r.all_cons, List.length_append, r.len, RowTy.all_len xs, List.length_cons, Nat.add_mul, Nat.one_mul, Nat.add_comm]
theorem RowTy.all_ones (xs : List α) : ∀ u ∈ r.all xs, u.oneCell' = true := by
 intro u hu
 obtain ⟨t, -, h⟩ := List.mem_flatMap.1 hu
 exact r.one t u h
theorem RowTy.all_drop (xs : List α) (j : Nat) : (r.all xs).drop (j * r.k) = r.all (xs.drop j) := by
 by_cases h : j ≤ xs.length
 · have e : r.all xs = r.all (xs.take j) ++ r.all (xs.drop j) := by rw [← r.all_append, List.take_append_drop]
   have hl : (r.all (xs.take j)).length = j * r.k := by rw [r.all_len, List.length_take, Nat.min_eq_left h]
   rw [e, ← hl, List.drop_left]
 · have h1 : xs.length * r.k ≤ j * r.k := Nat.mul_le_mul_right _ (by omega)
   rw [List.drop_of_length_le (by rw [r.all_len]; exact h1), List.drop_of_length_le (by omega)]; rfl
theorem RowTy.all_at {xs : List α} {i : Nat} (hi : i < xs.length) {j : Nat} (hj : j < r.k) : (r.all xs)[i * r.k + j]? = (r.f xs[i])[j]? := by
 have h1 : (r.all xs)[i * r.k + j]? = ((r.all xs).drop (i * r.k))[j]? := by rw [List.getElem?_drop]
 rw [h1, r.all_drop, List.drop_eq_getElem_cons hi, r.all_cons, List.getElem?_append_left (by rw [r.len]; exact hj)]
theorem RowTy.sizeT : (P.info? r.T).map (·.size) = some r.k := by
 obtain ⟨i0, z, b, h1, h2, h3, _⟩ := r.info
 rw [h1]; simp [h3]
def OwnR (B : Nat) (v : Value) (xs : List α) (w : World) : Prop := w.ownsRow B r.T r.k v xs.length (r.all xs)
def RdR (w : World) (v : Value) (xs : List α) : Prop :=
 (v = .slice none 0 0 ∧ xs = []) ∨ ∃ b off cap, v = .slice (some ⟨b, off, none⟩) xs.length cap ∧ xs.length ≤ cap ∧ b < w.heap.size ∧ w.rangeAt b off (r.all xs)
variable {r} {w w' : World} {v : Value} {xs : List α} {B : Nat}
theorem RdR.lenOf (h : RdR r w v xs) : ∃ ao cap, v = .slice ao xs.length cap := by
 rcases h with ⟨rfl, rfl⟩ | ⟨b, off, cap, rfl, -⟩
 · exact ⟨none, 0, rfl⟩
 · exact ⟨_, cap, rfl⟩
theorem rangeAt_block {b o : Nat} {cs : List Value} (h : w.rangeAt b o cs) (hk : w'.heap[b]? = w.heap[b]?) : w'.rangeAt b o cs := fun j u hj =>
 (World.cell?_of_block (a := ⟨b, o + j, none⟩) hk).trans (h j u hj)
theorem RdR.keep (h : RdR r w v xs) (hs : w.heap.size ≤ w'.heap.size) (hk : ∀ k, v.ownBlock = some k → w'.heap[k]? = w.heap[k]?) : RdR r w' v xs := by
 rcases h with h | ⟨b, off, cap, rfl, hl, hb, hr⟩
 · exact .inl h
 · exact .inr ⟨b, off, cap, rfl, hl, Nat.lt_of_lt_of_le hb hs, rangeAt_block hr (hk b rfl)⟩
theorem RdR.at {ao : Option Addr} {n cap : Nat} (h : RdR r w (.slice ao n cap) xs) {i : Nat} (hi : i < xs.length) :
 ∃ b off, ao = some ⟨b, off, none⟩ ∧ w.rangeAt b (off + i * r.k) (r.f xs[i]) ∧ b < w.heap.size := by
 rcases h with ⟨-, h2⟩ | ⟨b, off, c, h1, -, hlt, h3⟩
 · rw [h2] at hi; simp at hi
 · injection h1 with e1
   refine ⟨b, off, e1, fun j u hj => ?_, hlt⟩
   have hjk : j < r.k := by
    have := (List.getElem?_eq_some_iff.1 hj).1
    rwa [r.len] at this
   have := h3 (i * r.k + j) u (by rw [r.all_at hi hjk]; exact hj)
   rwa [show off + (i * r.k + j) = off + i * r.k + j by omega] at this
theorem OwnR.block (h : OwnR r B v xs w) {k : Nat} (hk : v.ownBlock = some k) : B ≤ k ∧ k < w.heap.size := World.ownsRow.lt h k hk
theorem OwnR.reads (h : OwnR r B v xs w) : RdR r w v xs := by
 have h0 := h
 obtain ⟨h1, h2⟩ := h
 rcases h2 with ⟨rfl, hn⟩ | ⟨g, cap, cur, rfl, hb, hg, hn, hm, hs, ht⟩
 · exact .inl ⟨rfl, List.eq_nil_of_length_eq_zero hn⟩
 · refine .inr ⟨g, 0, cap, rfl, hn, (h0.block rfl).2, fun j u hj => ?_⟩
   have : cur.toList[j]? = some u := by
    rw [← ht] at hj
    have := (List.getElem?_eq_some_iff.1 hj).1
    rw [List.length_take] at this
    rwa [List.getElem?_take_of_lt (by omega)] at hj
   rw [Nat.zero_add, World.cell?, hg]
   simpa using this
theorem OwnR.lenOf (h : OwnR r B v xs w) : ∃ ao cap, v = .slice ao xs.length cap := h.reads.lenOf
theorem OwnR.of {S' : Nat} (h : OwnR r B v xs w) (hS : S' ≤ B) (hk : ∀ k, v.ownBlock = some k → w'.heap[k]? = w.heap[k]?) : OwnR r S' v xs w' := by
 obtain ⟨h1, h2⟩ := h
 refine ⟨h1, ?_⟩
 rcases h2 with h2 | ⟨g, cap, cur, rfl, hb, hg, hn, hm, hs, ht⟩
 · exact .inl h2
 · exact .inr ⟨g, cap, cur, rfl, by omega, (hk g rfl).trans hg, hn, hm, hs, ht⟩
theorem OwnR.nil (w : World) (B : Nat) : OwnR r B (.slice none 0 0) [] w := World.ownsRow_nil w B _ r.k
theorem run_appR {ub : Nat} {y : α} (hown : OwnR r B v xs w) (hr : w.rangeAt ub 0 (r.f y)) (hlen : xs.length ≤ 1000000) (hB : B ≤ w.heap.size) (ty : TypeId) :
 ∃ v' w', (Builtin.append_ #[r.S, r.S] ty #[v, .slice (some ⟨ub, 0, none⟩) 1 1]).run P w = .ok v' w' ∧ OwnR r B v' (xs ++ [y]) w' ∧ w.grownBy w' v.ownBlock ∧ (v'.ownBlock = v.ownBlock ∨ v'.ownBlock = some w.heap.size) ∧ v' ≠ .slice none 0 0 := by
 obtain ⟨i0, z, b, h1, h2, h3, h4, h5, h6⟩ := r.info
 have hby : (xs.length + 1) * b ≤ 140737488355328 := Nat.le_trans (Nat.mul_le_mul (Nat.succ_le_succ hlen) h6) (by omega)
 obtain ⟨v', w', e1, e2, e3, e4, e5⟩ := run_append_own_at (P := P) (w := w) B r.S ty r.T i0 (.agg z) r.k b r.slice h1 h2 h3 h5 h4 r.pos v _ _ hown ⟨ub, 0, none⟩ 1 1 (r.f y) (by rw [r.len, Nat.one_mul])
  (fun j u hj => by rw [Addr.add_mid]; exact hr j u hj) (r.one y) (by unfold maxLen; omega) hby hB
 refine ⟨v', w', e1, ?_, e3, e5, fun e => by have := (e4.1 e).2; omega⟩
 unfold OwnR
 rw [r.all_append, r.all_one, List.length_append]
 exact e2
section
variable {F : Fence} {nF : Nat} {ops : Array Oper} {rest : List Oper} {o : Oper} {a : Act} {Q : Exit → Act → World → Prop}
theorem wplIn_appR {s x : Operand} {ub : Nat} {y : α} (hgd : o.guard = none) (ho : o.op = .call { callee := .builtin .append, args := #[s, x], argTypes := #[r.S, r.S] }) (hs : a.eval s = v) (hx : a.eval x = .slice (some ⟨ub, 0, none⟩) 1 1)
 (hown : OwnR r B v xs w) (hr : w.rangeAt ub 0 (r.f y)) (hlen : xs.length ≤ 1000000) (hB : B ≤ w.heap.size)
 (h : ∀ v' w', OwnR r B v' (xs ++ [y]) w' → w.grownBy w' v.ownBlock → (v'.ownBlock = v.ownBlock ∨ v'.ownBlock = some w.heap.size) → v' ≠ .slice none 0 0 → wpListIn F nF P ops Q rest (a.put o.dst v') w') : wpListIn F nF P ops Q (o :: rest) a w := by
 obtain ⟨v', w', hrun, h1, h2, h3, h4⟩ := run_appR hown hr hlen hB o.type
 refine wpListIn_plain hgd fun K hK => ?_
 unfold Oper.wpIn
 refine ⟨by simp [Oper.about, ho, resolve, Target.leads, Sem.run_pure], ?_⟩
 rw [Oper.semAt_plain F _ _ (by rw [ho]; intro c hc'; cases hc')]
 simp [execOp, ho, resolve, invoke, builtin, hs, hx, hrun, Result.andThen]
 exact hK _ _ (h v' w' h1 h2 h3 h4)
theorem wpl_appR {s x : Operand} {ub : Nat} {y : α} (hgd : o.guard = none) (ho : o.op = .call { callee := .builtin .append, args := #[s, x], argTypes := #[r.S, r.S] }) (hs : a.eval s = v) (hx : a.eval x = .slice (some ⟨ub, 0, none⟩) 1 1)
 (hown : OwnR r B v xs w) (hr : w.rangeAt ub 0 (r.f y)) (hlen : xs.length ≤ 1000000) (hB : B ≤ w.heap.size)
 (h : ∀ v' w', OwnR r B v' (xs ++ [y]) w' → w.grownBy w' v.ownBlock → (v'.ownBlock = v.ownBlock ∨ v'.ownBlock = some w.heap.size) → v' ≠ .slice none 0 0 → wpList P ops Q rest (a.put o.dst v') w') : wpList P ops Q (o :: rest) a w := by
 obtain ⟨v', w', hrun, h1, h2, h3, h4⟩ := run_appR hown hr hlen hB o.type
 refine wpList_plain hgd fun K hK => ?_
 unfold Oper.wp
 simp [execOp, ho, resolve, invoke, builtin, hs, hx, hrun, Result.andThen]
 exact hK _ _ (h v' w' h1 h2 h3 h4)
theorem run_loadR {b k : Nat} {t : α} (hr : w.rangeAt b k (r.f t)) : (Instr.loadAt r.T (.pointer (some ⟨b, k, none⟩))).run P w = .ok (.agg (r.f t).toArray) w := by
 obtain ⟨d, h1, h2⟩ := r.row
 exact run_loadAt_mid w b k r.T (r.f t) d hr h1 h2 (by rw [r.len]; exact r.sizeT)
theorem wplIn_loadR {b k : Nat} {t : α} (x : Operand) (hgd : o.guard = none) (ho : o.op = .load r.T x) (hx : a.eval x = .pointer (some ⟨b, k, none⟩)) (hr : w.rangeAt b k (r.f t))
 (h : wpListIn F nF P ops Q rest (a.put o.dst (.agg (r.f t).toArray)) w) : wpListIn F nF P ops Q (o :: rest) a w := by
 refine wpListIn_plain hgd fun K hK => ?_
 unfold Oper.wpIn
 refine ⟨by simp [Oper.about, ho], ?_⟩
 rw [Oper.semAt_plain F _ _ (by rw [ho]; intro c hc'; cases hc')]
 unfold execOp
 simp only [ho, hx, Sem.run_bind, Sem.run_pure, run_loadR hr, Result.andThen_ok]
 exact hK _ _ h
theorem wpl_loadR {b k : Nat} {t : α} (x : Operand) (hgd : o.guard = none) (ho : o.op = .load r.T x) (hx : a.eval x = .pointer (some ⟨b, k, none⟩)) (hr : w.rangeAt b k (r.f t))
 (h : wpList P ops Q rest (a.put o.dst (.agg (r.f t).toArray)) w) : wpList P ops Q (o :: rest) a w := by
 obtain ⟨d, h1, h2⟩ := r.row
 exact wpList_load_mid hgd r.T x ho b k hx (r.f t) d hr h1 h2 (by rw [r.len]; exact r.sizeT) h
theorem wplIn_allocR {ty : TypeId} (ht : ty = r.T) (hgd : o.guard = none) (ho : o.op = .alloc ty)
 (h : ∀ C : Array Value, C.size = r.k → wpListIn F nF P ops Q rest (a.put o.dst (.pointer (some ⟨w.heap.size, 0, none⟩))) (w.alloc (.cells C ty))) : wpListIn F nF P ops Q (o :: rest) a w := by
 subst ht
 obtain ⟨i0, z, b, hi, hz0, h3, h4, _⟩ := r.info
 refine wpListIn_plain hgd fun K hK => ?_
 unfold Oper.wpIn
 refine ⟨by simp [Oper.about, ho], ?_⟩
 rw [Oper.semAt_plain F _ _ (by rw [ho]; intro c hc'; cases hc')]
 have := h z h4
 unfold execOp
 simp [ho, Instr.alloc, zeroValue, typeInfo, hi, hz0, newVar, newRow, Value.cells, go_sem]
 exact hK _ _ this
theorem wplIn_storeR {ty : TypeId} {b : Nat} {t : α} {C : Array Value} (x y : Operand) (ht : ty = r.T) (hgd : o.guard = none) (ho : o.op = .store ty x y) (hx : a.eval x = .pointer (some ⟨b, 0, none⟩)) (hy : a.eval y = .agg (r.f t).toArray) (hh : w.heap[b]? = some (.cells C ty (0, 0))) (hC : C.size = r.k)
 (h : wpListIn F nF P ops Q rest (a.put o.dst undef) (w.setRow b (r.f t).toArray)) : wpListIn F nF P ops Q (o :: rest) a w := by
 subst ht
 refine wpListIn_plain hgd fun K hK => ?_
 unfold Oper.wpIn
 refine ⟨by simp [Oper.about, ho], ?_⟩
 rw [Oper.semAt_plain F _ _ (by rw [ho]; intro c hc'; cases hc')]
 unfold execOp
 have hr : (Instr.storeAt r.T (.pointer (some ⟨b, 0, none⟩)) (.agg (r.f t).toArray)).run P w = .ok () (w.setRow b (r.f t).toArray) := by
  simp only [Instr.storeAt, Instr.sureAddr, Sem.run_bind, Sem.run_pure, Result.andThen_ok, run_storeVar_row w b r.T r.T C (r.f t).toArray hh (by rw [List.size_toArray, r.len]; exact r.sizeT) (by simp [r.len, hC]) (by rw [Array.all_eq_true_iff_forall_mem]; intro u hu; exact r.one t u (by simpa using hu))]
 simp only [ho, hx, hy, Sem.run_bind, Sem.run_pure, hr, Result.andThen_ok]
 exact hK _ _ h
end
theorem rangeAt_whole {b : Nat} {T : TypeId} {cs : List Value} (h : w.heap[b]? = some (.cells cs.toArray T (0, 0))) : w.rangeAt b 0 cs := fun j u hj => by
 rw [Nat.zero_add, World.cell?, h]
 simpa using hj
end
end Go.Proofs.YtbpemdihoabbcaaGreat
end
section
namespace Go.Proofs.YtbpemdihoabbcaaGreat
open Go.RowKit Go.Maps
def litV : Value → Prop
 | .int _ _ => True
 | .bool _ => True
 | _ => False
def vdat : Value → DataW Unit
 | .int k a => .lit (.int k a)
 | .bool b => .lit (.bool b)
 | _ => .nil
theorem vdat_inj {u v : Value} (hu : litV u) (hv : litV v) (h : vdat u = vdat v) : u = v := by
 cases u <;> simp only [litV] at hu <;> cases v <;> simp only [litV] at hv <;> simp [vdat] at h
 · rw [h]
 · obtain ⟨h1, h2⟩ := h
   subst h1
   first | rw [h2] | (simp at h2; rw [h2])
theorem vdats_inj : ∀ {l m : List Value}, (∀ u ∈ l, litV u) → (∀ u ∈ m, litV u) → l.map vdat = m.map vdat → l = m
 | [], [], _, _, _ => rfl
 | [], _ :: _, _, _, h => by simp at h
 | _ :: _, [], _, _, h => by simp at h
 | a :: l, b :: m, hl, hm, h => by
  simp only [List.map_cons, List.cons.injEq] at h
  rw [vdat_inj (hl a (by simp)) (hm b (by simp)) h.1, vdats_inj (fun u hu => hl u (List.mem_cons_of_mem _ hu)) (fun u hu => hm u (List.mem_cons_of_mem _ hu)) h.2]
theorem litV.one {u : Value} (h : litV u) : u.oneCell' = true := by cases u <;> simp only [litV] at h <;> rfl
structure StTy (P : Program) (α : Type) where
 T : TypeId
 k : Nat
 f : α → List Value
 zero : α
 len : ∀ x, (f x).length = k
 lit : ∀ x, ∀ u ∈ f x, litV u
 inj : ∀ x y, f x = f y → x = y
 info : ∃ i0, P.info? T = some i0 ∧ i0.zero = some (.agg (f zero).toArray) ∧ i0.size = k
 row : ∃ d, P.underlying T = some d ∧ d.isRow = true
section
variable {P : Program} {α : Type} {s : StTy P α} {w : World} {ops : Array Oper} {rest : List Oper} {o : Oper} {a : Act} {Q : Exit → Act → World → Prop} {F : Fence} {nF : Nat}
theorem StTy.sizeT (s : StTy P α) : (P.info? s.T).map (·.size) = some s.k := by
 obtain ⟨i0, h1, h2, h3⟩ := s.info
 rw [h1]; simp [h3]
def StTy.v (s : StTy P α) (x : α) : Value := .agg (s.f x).toArray
def StTy.obj (s : StTy P α) (x : α) : Obj := .cells (s.f x).toArray s.T
theorem StTy.zeroRun (s : StTy P α) (w : World) : (zeroValue s.T).run P w = .ok (s.v s.zero) w := by
 obtain ⟨i0, h1, h2, h3⟩ := s.info
 simp [zeroValue, typeInfo, h1, h2, go_sem, StTy.v]
theorem run_loadS {b k : Nat} {t : α} (hr : w.rangeAt b k (s.f t)) : (Instr.loadAt s.T (.pointer (some ⟨b, k, none⟩))).run P w = .ok (s.v t) w := by
 obtain ⟨d, h1, h2⟩ := s.row
 exact run_loadAt_mid w b k s.T (s.f t) d hr h1 h2 (by rw [s.len]; exact s.sizeT)
theorem wpl_loadS {ty : TypeId} {b k : Nat} {t : α} (x : Operand) (ht : ty = s.T) (hgd : o.guard = none) (ho : o.op = .load ty x) (hx : a.eval x = .pointer (some ⟨b, k, none⟩)) (hr : w.rangeAt b k (s.f t))
 (h : wpList P ops Q rest (a.put o.dst (s.v t)) w) : wpList P ops Q (o :: rest) a w := by
 subst ht
 obtain ⟨d, h1, h2⟩ := s.row
 exact wpList_load_mid hgd s.T x ho b k hx (s.f t) d hr h1 h2 (by rw [s.len]; exact s.sizeT) h
theorem wplIn_allocS {ty : TypeId} (ht : ty = s.T) (hgd : o.guard = none) (ho : o.op = .alloc ty)
 (h : wpListIn F nF P ops Q rest (a.put o.dst (.pointer (some ⟨w.heap.size, 0, none⟩))) (w.alloc (s.obj s.zero))) : wpListIn F nF P ops Q (o :: rest) a w := by
 subst ht
 obtain ⟨i0, h1, h2, h3⟩ := s.info
 refine wpListIn_plain hgd fun K hK => ?_
 unfold Oper.wpIn
 refine ⟨by simp [Oper.about, ho], ?_⟩
 rw [Oper.semAt_plain F _ _ (by rw [ho]; intro c hc'; cases hc')]
 unfold execOp
 simp [ho, Instr.alloc, zeroValue, typeInfo, h1, h2, newVar, newRow, Value.cells, go_sem]
 exact hK _ _ h
theorem wpl_allocS {ty : TypeId} (ht : ty = s.T) (hgd : o.guard = none) (ho : o.op = .alloc ty)
 (h : wpList P ops Q rest (a.put o.dst (.pointer (some ⟨w.heap.size, 0, none⟩))) (w.alloc (s.obj s.zero))) : wpList P ops Q (o :: rest) a w := by
 subst ht
 obtain ⟨i0, h1, h2, h3⟩ := s.info
 refine wpList_plain hgd fun K hK => ?_
 unfold Oper.wp execOp
 simp [ho, Instr.alloc, zeroValue, typeInfo, h1, h2, newVar, newRow, Value.cells, go_sem]
 exact hK _ _ h
theorem run_storeS {b : Nat} {t : α} {C : Array Value} (hh : w.heap[b]? = some (.cells C s.T (0, 0))) (hC : C.size = s.k) : (Instr.storeAt s.T (.pointer (some ⟨b, 0, none⟩)) (s.v t)).run P w = .ok () (w.setRow b (s.f t).toArray) := by
 simp only [StTy.v, Instr.storeAt, Instr.sureAddr, Sem.run_bind, Sem.run_pure, Result.andThen_ok, run_storeVar_row w b s.T s.T C (s.f t).toArray hh (by rw [List.size_toArray, s.len]; exact s.sizeT) (by simp [s.len, hC]) (by rw [Array.all_eq_true_iff_forall_mem]; intro u hu; exact (s.lit t u (by simpa using hu)).one)]
theorem wpl_storeS {ty : TypeId} {b : Nat} {t : α} {C : Array Value} (x y : Operand) (ht : ty = s.T) (hgd : o.guard = none) (ho : o.op = .store ty x y) (hx : a.eval x = .pointer (some ⟨b, 0, none⟩)) (hy : a.eval y = s.v t) (hh : w.heap[b]? = some (.cells C s.T (0, 0))) (hC : C.size = s.k)
 (h : wpList P ops Q rest (a.put o.dst undef) (w.setRow b (s.f t).toArray)) : wpList P ops Q (o :: rest) a w := by
 subst ht
 refine wpList_plain hgd fun K hK => ?_
 unfold Oper.wp execOp
 simp only [ho, hx, hy, Sem.run_bind, Sem.run_pure, run_storeS hh hC, Result.andThen_ok]
 exact hK _ _ h
theorem wplIn_storeS {ty : TypeId} {b : Nat} {t : α} {C : Array Value} (x y : Operand) (ht : ty = s.T) (hgd : o.guard = none) (ho : o.op = .store ty x y) (hx : a.eval x = .pointer (some ⟨b, 0, none⟩)) (hy : a.eval y = s.v t) (hh : w.heap[b]? = some (.cells C s.T (0, 0))) (hC : C.size = s.k)
 (h : wpListIn F nF P ops Q rest (a.put o.dst undef) (w.setRow b (s.f t).toArray)) : wpListIn F nF P ops Q (o :: rest) a w := by
 subst ht
 refine wpListIn_plain hgd fun K hK => ?_
 unfold Oper.wpIn
 refine ⟨by simp [Oper.about, ho], ?_⟩
 rw [Oper.semAt_plain F _ _ (by rw [ho]; intro c hc'; cases hc')]
 unfold execOp
 simp only [ho, hx, hy, Sem.run_bind, Sem.run_pure, run_storeS hh hC, Result.andThen_ok]
 exact hK _ _ h
theorem newS (s : StTy P α) (w : World) (t : α) : (w.alloc (s.obj s.zero)).setRow w.heap.size (s.f t).toArray = w.alloc (s.obj t) := World.setRow_alloc_new _ _ _ _
theorem atS (s : StTy P α) (w : World) (t : α) : (w.alloc (s.obj t)).rangeAt w.heap.size 0 (s.f t) := rangeAt_whole (T := s.T) (World.alloc_heap_new _ _)
theorem zeroS (s : StTy P α) : (s.f s.zero).toArray.size = s.k := by simp [s.len]
theorem run_varS {b : Nat} {t : α} (hr : w.rangeAt b 0 (s.f t)) : (loadVar s.T ⟨b, 0, none⟩).run P w = .ok (s.v t) w := by
 obtain ⟨d, h1, h2⟩ := s.row
 exact run_loadVar_mid w b 0 s.T (s.f t) d hr h1 h2 (by rw [s.len]; exact s.sizeT)
theorem results_S2 {fn : Func} {p q : Tmp} (hf : fn.results = #[.cell p s.T, .tmp q]) {tmps : Array Value} {b : Nat} {t : α} {u : Value} (hp : tmps.getD p undef = .pointer (some ⟨b, 0, none⟩)) (hq : tmps.getD q undef = u) (hr : w.rangeAt b 0 (s.f t)) :
 (results fn tmps).run P w = .ok (.tuple #[s.v t, u]) w := by
 have hp' : tmps[p]?.getD undef = .pointer (some ⟨b, 0, none⟩) := by simpa using hp
 have hq' : tmps[q]?.getD undef = u := by simpa using hq
 unfold results
 rw [hf]
 simp [Array.mapM_eq_mapM_toList, hp', hq', asAddr, Sem.run_bind, run_varS hr, Result.andThen]
theorem results_S1 {fn : Func} {p : Tmp} (hf : fn.results = #[.cell p s.T]) {tmps : Array Value} {b : Nat} {t : α} (hp : tmps.getD p undef = .pointer (some ⟨b, 0, none⟩)) (hr : w.rangeAt b 0 (s.f t)) :
 (results fn tmps).run P w = .ok (s.v t) w := by
 have hp' : tmps[p]?.getD undef = .pointer (some ⟨b, 0, none⟩) := by simpa using hp
 unfold results
 rw [hf]
 simp [Array.mapM_eq_mapM_toList, hp', asAddr, Sem.run_bind, run_varS hr, Result.andThen]
noncomputable def StTy.cod (s : StTy P α) : Cod α where
 enc := s.v
 R := fun v => open Classical in if h : ∃ x, v = s.v x then some (.agg ((s.f h.choose).map vdat), []) else none
 dat := fun x => .agg ((s.f x).map vdat)
 hR := fun x => by
  have h : ∃ y, s.v x = s.v y := ⟨x, rfl⟩
  rw [dif_pos h]
  have e := h.choose_spec
  have e1 : (s.f x).toArray = (s.f h.choose).toArray := by injection e
  have e2 : s.f x = s.f h.choose := congrArg Array.toList e1
  rw [← s.inj _ _ e2]
 inv := fun v z h => by
  split at h
  · rename_i hx
    refine ⟨hx.choose, hx.choose_spec, ?_⟩
    injection h with h
    exact h.symm
  · cases h
 inj := fun x y h => by
  have h' : (s.f x).map vdat = (s.f y).map vdat := by simpa using h
  exact s.inj _ _ (vdats_inj (s.lit x) (s.lit y) h')
end
end Go.Proofs.YtbpemdihoabbcaaGreat
end
section
namespace Go.Proofs.YtbpemdihoabbcaaGreat
open Go.RowKit Go.Maps
structure Bal where
 k : Int
 aye : Bool
 l : Int
 a : Int
 n : Int
 s : Int
deriving DecidableEq
structure Dlg where
 «to» : Int
 l : Int
 n : Int
deriving DecidableEq
structure Wgt where
 v : Int
 c : Int
deriving DecidableEq
theorem balInfo : (Tryz.prog.info? 28).map (fun i => (i.zero, i.size)) = some (some (.agg #[.int .i64 0, .bool false, .int .i64 0, .int .i64 0, .int .i64 0, .int .i64 0]), 6) := by kernel_rfl
def balS : StTy Tryz.prog Bal where
 T := 28
 k := 6
 f := fun x => [.int .i64 x.k, .bool x.aye, .int .i64 x.l, .int .i64 x.a, .int .i64 x.n, .int .i64 x.s]
 zero := ⟨0, false, 0, 0, 0, 0⟩
 len := fun _ => rfl
 lit := fun x u hu => by
  simp only [List.mem_cons, List.not_mem_nil, or_false] at hu
  rcases hu with rfl | rfl | rfl | rfl | rfl | rfl <;> trivial
 inj := fun x y h => by cases x; cases y; simpa using h
 info := by
  obtain ⟨i0, hi, hz⟩ := Option.map_eq_some_iff.1 balInfo
  simp only [Prod.mk.injEq] at hz
  exact ⟨i0, hi, hz.1, hz.2⟩
 row := ⟨_, Tryz.underlying28, rfl⟩
theorem dlgInfo : (Tryz.prog.info? 93).map (fun i => (i.zero, i.size)) = some (some (.agg #[.int .i64 0, .int .i64 0, .int .i64 0]), 3) := by kernel_rfl
def dlgS : StTy Tryz.prog Dlg where
 T := 93
 k := 3
 f := fun x => [.int .i64 x.to, .int .i64 x.l, .int .i64 x.n]
 zero := ⟨0, 0, 0⟩
 len := fun _ => rfl
 lit := fun x u hu => by
  simp only [List.mem_cons, List.not_mem_nil, or_false] at hu
  rcases hu with rfl | rfl | rfl <;> trivial
 inj := fun x y h => by cases x; cases y; simpa using h
 info := by
  obtain ⟨i0, hi, hz⟩ := Option.map_eq_some_iff.1 dlgInfo
  simp only [Prod.mk.injEq] at hz
  exact ⟨i0, hi, hz.1, hz.2⟩
 row := ⟨_, Tryz.underlying93, rfl⟩
theorem wgtInfo : (Tryz.prog.info? 82).map (fun i => (i.zero, i.size)) = some (some (.agg #[.int .i64 0, .int .i64 0]), 2) := by kernel_rfl
def wgtS : StTy Tryz.prog Wgt where
 T := 82
 k := 2
 f := fun x => [.int .i64 x.v, .int .i64 x.c]
 zero := ⟨0, 0⟩
 len := fun _ => rfl
 lit := fun x u hu => by
  simp only [List.mem_cons, List.not_mem_nil, or_false] at hu
  rcases hu with rfl | rfl <;> trivial
 inj := fun x y h => by cases x; cases y; simpa using h
 info := by
  obtain ⟨i0, hi, hz⟩ := Option.map_eq_some_iff.1 wgtInfo
  simp only [Prod.mk.injEq] at hz
  exact ⟨i0, hi, hz.1, hz.2⟩
 row := ⟨_, Tryz.underlying82, rfl⟩
theorem priInfo : (Tryz.prog.info? 104).map (fun i => (i.zero, i.size)) = some (some (.agg #[.int .i64 0, .int .i64 0]), 2) := by kernel_rfl
def priS : StTy Tryz.prog Wgt where
 T := 104
 k := 2
 f := fun x => [.int .i64 x.v, .int .i64 x.c]
 zero := ⟨0, 0⟩
 len := fun _ => rfl
 lit := fun x u hu => by
  simp only [List.mem_cons, List.not_mem_nil, or_false] at hu
  rcases hu with rfl | rfl <;> trivial
 inj := fun x y h => by cases x; cases y; simpa using h
 info := by
  obtain ⟨i0, hi, hz⟩ := Option.map_eq_some_iff.1 priInfo
  simp only [Prod.mk.injEq] at hz
  exact ⟨i0, hi, hz.1, hz.2⟩
 row := ⟨_, Tryz.underlying104, rfl⟩
end Go.Proofs.YtbpemdihoabbcaaGreat
end
section
namespace Go.Proofs.YtbpemdihoabbcaaGreat
open Go.RowKit Go.Maps
def StTy.getW {P : Program} {α : Type} (s : StTy P α) (w : World) (t : α) : World := ((w.alloc (s.obj s.zero)).alloc (s.obj t)).setRow w.heap.size (s.f t).toArray
theorem StTy.getW_below {P : Program} {α : Type} (s : StTy P α) (w : World) (t : α) : Below w.heap.size w (s.getW w t) := by
 have h1 := ((Below.refl _ w).alloc (Nat.le_refl _) (s.obj s.zero)).alloc (by simp) (s.obj t)
 exact ⟨h1.os, h1.tape, h1.output, by unfold StTy.getW; simpa using h1.size, fun k hk => (setRow_other _ _ _ _ (by omega)).trans (h1.block k hk)⟩
theorem grid_New_V (w : World) : Calls Tryz.prog 82 #[] w fun e w' => e = .returned (.pointer (some ⟨w.heap.size, 0, none⟩)) ∧ w' = w.alloc (.cells #[.map none, .map none, .int .i64 0] 169) := by
 go_enter Tryz.func82, Tryz.ntmps82
 go_wp2
 go_ret
 exact ⟨rfl, rfl⟩
theorem GrAt.new_V (w : World) : GrAt balS.cod 169 w.heap.size [] (fun k => k = w.heap.size) (w.alloc (.cells #[.map none, .map none, .int .i64 0] 169)) :=
 ⟨List.Pairwise.nil, rfl, fun k hk => by subst hk; simp, .inl ⟨rfl, World.alloc_heap_new w _⟩⟩
set_option maxRecDepth 100000 in
set_option maxHeartbeats 2000000 in
theorem grid_GetE_V {g : Nat} {M : Cls Bal} {F : FP} {w : World} (h : GrAt balS.cod 169 g M F w) {a b : Int} (ha : (Lit.int .i64 a).wf = true) (hb : (Lit.int .i64 b).wf = true) :
 Calls Tryz.prog 59 #[.pointer (some ⟨g, 0, none⟩), .int .i64 a, .int .i64 b] w fun e w' => e = .returned (.tuple #[balS.v ((cget M a b).getD balS.zero), .bool (cget M a b).isSome]) ∧ w' = balS.getW w ((cget M a b).getD balS.zero) := by
 have hu1 : Tryz.prog.underlying 167 = some (.map 3 166) := Tryz.underlying167
 have hu2 : Tryz.prog.underlying 166 = some (.map 3 28) := Tryz.underlying166
 have hz1 : ∀ w, (zeroValue 166).run Tryz.prog w = .ok (codM.enc none) w := fun w => Tryz.zeroValue166 w
 have hz2 : ∀ w, (zeroValue 28).run Tryz.prog w = .ok (balS.cod.enc balS.zero) w := fun w => balS.zeroRun w
 obtain ⟨W0, hW0⟩ : ∃ W0, W0 = w.alloc (balS.obj balS.zero) := ⟨_, rfl⟩
 have hB0 : Below w.heap.size w W0 := by rw [hW0]; exact (Below.refl _ w).alloc (Nat.le_refl _) _
 have h0 : GrAt balS.cod 169 g M F W0 := h.keep (Grow.of_below hB0) (fun k hk => hB0.block k (h.2.2.1 k hk))
 have key : ∃ mv mi, W0.cell? ⟨g, 0, none⟩ = some (.map mv) ∧ (Instr.lookup 167 (.map mv) (.int .i64 a) false).run Tryz.prog W0 = .ok (.map mi) W0 ∧
  (Instr.lookup 166 (.map mi) (.int .i64 b) true).run Tryz.prog W0 = .ok (.tuple #[balS.v ((cget M a b).getD balS.zero), .bool (cget M a b).isSome]) W0 := by
  obtain ⟨_, _, _, (⟨rfl, hh⟩ | ⟨B, C, rm, cm, hh, hM, _⟩)⟩ := h0
  · refine ⟨none, none, by rw [World.cell?, hh]; rfl, nil_look hu1 (hz1 W0) ha false, ?_⟩
    exact nil_look hu2 (hz2 W0) hb true
  · have hl := hM.row.map.look (z0 := none) hu1 (hz1 W0) ha
    cases hs : sget rm a with
    | none =>
     rw [hs] at hl
     refine ⟨some B, none, by rw [World.cell?, hh]; rfl, hl, ?_⟩
     have hr := hM.row.isNil hs
     have : cget M a b = none := by rw [cget, hr]; rfl
     rw [this]
     exact nil_look hu2 (hz2 W0) hb true
    | some x =>
     obtain ⟨b', rfl, _, _, h3⟩ := hM.row.at_ a x hs
     rw [hs] at hl
     exact ⟨some B, some b', by rw [World.cell?, hh]; rfl, hl, h3.look_ok hu2 (hz2 W0) hb⟩
 obtain ⟨mv, mi, hc, h1, h2⟩ := key
 obtain ⟨t, ht⟩ : ∃ t, t = (cget M a b).getD balS.zero := ⟨_, rfl⟩
 obtain ⟨q, hq⟩ : ∃ q, q = (cget M a b).isSome := ⟨_, rfl⟩
 rw [← ht, ← hq] at h2
 rw [← ht, ← hq]
 obtain ⟨rb, hrb⟩ : ∃ rb, rb = w.heap.size := ⟨_, rfl⟩
 have hz : W0.heap[rb]? = some (balS.obj balS.zero) := by rw [hW0, hrb]; exact World.alloc_heap_new w _
 have hlt : rb < W0.heap.size := by rw [hW0, hrb]; simp
 have hk0 : (W0.alloc (balS.obj t)).heap[rb]? = some (balS.obj balS.zero) := (Below.heap_alloc _ _ _ hlt).trans hz
 have hr1 : ((W0.alloc (balS.obj t)).setRow rb (balS.f t).toArray).rangeAt rb 0 (balS.f t) := rangeAt_whole (T := balS.T) (setRow_heap _ _ _ _ _ _ hk0)
 have H1 := Lib.hid h1
 have H2 := Lib.hid h2
 have HK := Lib.hid (And.intro hk0 hr1)
 have HW0 := Lib.hid (And.intro hW0 hrb)
 clear h h0 h1 h2 hu1 hu2 hz1 hz2 ha hb ht hq hB0 hW0 hrb hz hk0 hr1 hlt
 go_enter Tryz.func59, Tryz.ntmps59
 have tok1 : True := trivial
 go_upto_region 1 with (first
  | (refine wpl_allocS (s := balS) rfl rfl rfl ?_)
  | fail)
 rw [← HW0.out.1, ← HW0.out.2]
 go_wp2_with (first
  | (at_lookup; have _t := tok1; refine wpl_look rfl _ _ _ _ rfl rfl rfl H1.out ?_; clear tok1)
  | (at_lookup; refine wpl_look rfl _ _ _ _ rfl rfl rfl H2.out ?_)
  | (refine wpl_allocS (s := balS) rfl rfl rfl ?_)
  | (refine wpl_storeS (s := balS) (t := t) (b := W0.heap.size) _ _ rfl rfl rfl rfl rfl (World.alloc_heap_new W0 _) (zeroS balS) ?_; rw [newS])
  | (refine wpl_loadS (s := balS) (t := t) (b := W0.heap.size) (k := 0) _ rfl rfl rfl rfl (atS balS W0 t) ?_)
  | (refine wpl_storeS (s := balS) (t := t) (b := rb) _ _ rfl rfl rfl rfl rfl HK.out.1 (zeroS balS) ?_)
  | fail)
 exact bodyPost_ret (v := .tuple #[balS.v t, .bool q]) (results_S2 (s := balS) Tryz.results59 rfl rfl HK.out.2) rfl ⟨rfl, by rw [HW0.out.1, HW0.out.2]; rfl⟩
theorem grid_Get_V {g : Nat} {M : Cls Bal} {F : FP} {w : World} (h : GrAt balS.cod 169 g M F w) {a b : Int} (ha : (Lit.int .i64 a).wf = true) (hb : (Lit.int .i64 b).wf = true) :
 Calls Tryz.prog 59 #[.pointer (some ⟨g, 0, none⟩), .int .i64 a, .int .i64 b] w fun e w' => e = .returned (.tuple #[balS.v ((cget M a b).getD balS.zero), .bool (cget M a b).isSome]) ∧ Below w.heap.size w w' :=
 (grid_GetE_V h ha hb).mono fun e w' ⟨he, hw⟩ => ⟨he, by rw [hw]; exact balS.getW_below w _⟩
theorem grid_New_D (w : World) : Calls Tryz.prog 83 #[] w fun e w' => e = .returned (.pointer (some ⟨w.heap.size, 0, none⟩)) ∧ w' = w.alloc (.cells #[.map none, .map none, .int .i64 0] 161) := by
 go_enter Tryz.func83, Tryz.ntmps83
 go_wp2
 go_ret
 exact ⟨rfl, rfl⟩
theorem GrAt.new_D (w : World) : GrAt dlgS.cod 161 w.heap.size [] (fun k => k = w.heap.size) (w.alloc (.cells #[.map none, .map none, .int .i64 0] 161)) :=
 ⟨List.Pairwise.nil, rfl, fun k hk => by subst hk; simp, .inl ⟨rfl, World.alloc_heap_new w _⟩⟩
set_option maxRecDepth 100000 in
set_option maxHeartbeats 2000000 in
theorem grid_GetE_D {g : Nat} {M : Cls Dlg} {F : FP} {w : World} (h : GrAt dlgS.cod 161 g M F w) {a b : Int} (ha : (Lit.int .i64 a).wf = true) (hb : (Lit.int .i64 b).wf = true) :
 Calls Tryz.prog 49 #[.pointer (some ⟨g, 0, none⟩), .int .i64 a, .int .i64 b] w fun e w' => e = .returned (.tuple #[dlgS.v ((cget M a b).getD dlgS.zero), .bool (cget M a b).isSome]) ∧ w' = dlgS.getW w ((cget M a b).getD dlgS.zero) := by
 have hu1 : Tryz.prog.underlying 158 = some (.map 3 157) := Tryz.underlying158
 have hu2 : Tryz.prog.underlying 157 = some (.map 3 93) := Tryz.underlying157
 have hz1 : ∀ w, (zeroValue 157).run Tryz.prog w = .ok (codM.enc none) w := fun w => Tryz.zeroValue157 w
 have hz2 : ∀ w, (zeroValue 93).run Tryz.prog w = .ok (dlgS.cod.enc dlgS.zero) w := fun w => dlgS.zeroRun w
 obtain ⟨W0, hW0⟩ : ∃ W0, W0 = w.alloc (dlgS.obj dlgS.zero) := ⟨_, rfl⟩
 have hB0 : Below w.heap.size w W0 := by rw [hW0]; exact (Below.refl _ w).alloc (Nat.le_refl _) _
 have h0 : GrAt dlgS.cod 161 g M F W0 := h.keep (Grow.of_below hB0) (fun k hk => hB0.block k (h.2.2.1 k hk))
 have key : ∃ mv mi, W0.cell? ⟨g, 0, none⟩ = some (.map mv) ∧ (Instr.lookup 158 (.map mv) (.int .i64 a) false).run Tryz.prog W0 = .ok (.map mi) W0 ∧
  (Instr.lookup 157 (.map mi) (.int .i64 b) true).run Tryz.prog W0 = .ok (.tuple #[dlgS.v ((cget M a b).getD dlgS.zero), .bool (cget M a b).isSome]) W0 := by
  obtain ⟨_, _, _, (⟨rfl, hh⟩ | ⟨B, C, rm, cm, hh, hM, _⟩)⟩ := h0
  · refine ⟨none, none, by rw [World.cell?, hh]; rfl, nil_look hu1 (hz1 W0) ha false, ?_⟩
    exact nil_look hu2 (hz2 W0) hb true
  · have hl := hM.row.map.look (z0 := none) hu1 (hz1 W0) ha
    cases hs : sget rm a with
    | none =>
     rw [hs] at hl
     refine ⟨some B, none, by rw [World.cell?, hh]; rfl, hl, ?_⟩
     have hr := hM.row.isNil hs
     have : cget M a b = none := by rw [cget, hr]; rfl
     rw [this]
     exact nil_look hu2 (hz2 W0) hb true
    | some x =>
     obtain ⟨b', rfl, _, _, h3⟩ := hM.row.at_ a x hs
     rw [hs] at hl
     exact ⟨some B, some b', by rw [World.cell?, hh]; rfl, hl, h3.look_ok hu2 (hz2 W0) hb⟩
 obtain ⟨mv, mi, hc, h1, h2⟩ := key
 obtain ⟨t, ht⟩ : ∃ t, t = (cget M a b).getD dlgS.zero := ⟨_, rfl⟩
 obtain ⟨q, hq⟩ : ∃ q, q = (cget M a b).isSome := ⟨_, rfl⟩
 rw [← ht, ← hq] at h2
 rw [← ht, ← hq]
 obtain ⟨rb, hrb⟩ : ∃ rb, rb = w.heap.size := ⟨_, rfl⟩
 have hz : W0.heap[rb]? = some (dlgS.obj dlgS.zero) := by rw [hW0, hrb]; exact World.alloc_heap_new w _
 have hlt : rb < W0.heap.size := by rw [hW0, hrb]; simp
 have hk0 : (W0.alloc (dlgS.obj t)).heap[rb]? = some (dlgS.obj dlgS.zero) := (Below.heap_alloc _ _ _ hlt).trans hz
 have hr1 : ((W0.alloc (dlgS.obj t)).setRow rb (dlgS.f t).toArray).rangeAt rb 0 (dlgS.f t) := rangeAt_whole (T := dlgS.T) (setRow_heap _ _ _ _ _ _ hk0)
 have H1 := Lib.hid h1
 have H2 := Lib.hid h2
 have HK := Lib.hid (And.intro hk0 hr1)
 have HW0 := Lib.hid (And.intro hW0 hrb)
 clear h h0 h1 h2 hu1 hu2 hz1 hz2 ha hb ht hq hB0 hW0 hrb hz hk0 hr1 hlt
 go_enter Tryz.func49, Tryz.ntmps49
 have tok1 : True := trivial
 go_upto_region 1 with (first
  | (refine wpl_allocS (s := dlgS) rfl rfl rfl ?_)
  | fail)
 rw [← HW0.out.1, ← HW0.out.2]
 go_wp2_with (first
  | (at_lookup; have _t := tok1; refine wpl_look rfl _ _ _ _ rfl rfl rfl H1.out ?_; clear tok1)
  | (at_lookup; refine wpl_look rfl _ _ _ _ rfl rfl rfl H2.out ?_)
  | (refine wpl_allocS (s := dlgS) rfl rfl rfl ?_)
  | (refine wpl_storeS (s := dlgS) (t := t) (b := W0.heap.size) _ _ rfl rfl rfl rfl rfl (World.alloc_heap_new W0 _) (zeroS dlgS) ?_; rw [newS])
  | (refine wpl_loadS (s := dlgS) (t := t) (b := W0.heap.size) (k := 0) _ rfl rfl rfl rfl (atS dlgS W0 t) ?_)
  | (refine wpl_storeS (s := dlgS) (t := t) (b := rb) _ _ rfl rfl rfl rfl rfl HK.out.1 (zeroS dlgS) ?_)
  | fail)
 exact bodyPost_ret (v := .tuple #[dlgS.v t, .bool q]) (results_S2 (s := dlgS) Tryz.results49 rfl rfl HK.out.2) rfl ⟨rfl, by rw [HW0.out.1, HW0.out.2]; rfl⟩
theorem grid_Get_D {g : Nat} {M : Cls Dlg} {F : FP} {w : World} (h : GrAt dlgS.cod 161 g M F w) {a b : Int} (ha : (Lit.int .i64 a).wf = true) (hb : (Lit.int .i64 b).wf = true) :
 Calls Tryz.prog 49 #[.pointer (some ⟨g, 0, none⟩), .int .i64 a, .int .i64 b] w fun e w' => e = .returned (.tuple #[dlgS.v ((cget M a b).getD dlgS.zero), .bool (cget M a b).isSome]) ∧ Below w.heap.size w w' :=
 (grid_GetE_D h ha hb).mono fun e w' ⟨he, hw⟩ => ⟨he, by rw [hw]; exact dlgS.getW_below w _⟩
theorem grid_New_W (w : World) : Calls Tryz.prog 84 #[] w fun e w' => e = .returned (.pointer (some ⟨w.heap.size, 0, none⟩)) ∧ w' = w.alloc (.cells #[.map none, .map none, .int .i64 0] 189) := by
 go_enter Tryz.func84, Tryz.ntmps84
 go_wp2
 go_ret
 exact ⟨rfl, rfl⟩
theorem GrAt.new_W (w : World) : GrAt wgtS.cod 189 w.heap.size [] (fun k => k = w.heap.size) (w.alloc (.cells #[.map none, .map none, .int .i64 0] 189)) :=
 ⟨List.Pairwise.nil, rfl, fun k hk => by subst hk; simp, .inl ⟨rfl, World.alloc_heap_new w _⟩⟩
set_option maxRecDepth 100000 in
set_option maxHeartbeats 2000000 in
theorem grid_GetE_W {g : Nat} {M : Cls Wgt} {F : FP} {w : World} (h : GrAt wgtS.cod 189 g M F w) {a b : Int} (ha : (Lit.int .i64 a).wf = true) (hb : (Lit.int .i64 b).wf = true) :
 Calls Tryz.prog 105 #[.pointer (some ⟨g, 0, none⟩), .int .i64 a, .int .i64 b] w fun e w' => e = .returned (.tuple #[wgtS.v ((cget M a b).getD wgtS.zero), .bool (cget M a b).isSome]) ∧ w' = wgtS.getW w ((cget M a b).getD wgtS.zero) := by
 have hu1 : Tryz.prog.underlying 187 = some (.map 3 195) := Tryz.underlying187
 have hu2 : Tryz.prog.underlying 195 = some (.map 3 82) := Tryz.underlying195
 have hz1 : ∀ w, (zeroValue 195).run Tryz.prog w = .ok (codM.enc none) w := fun w => Tryz.zeroValue195 w
 have hz2 : ∀ w, (zeroValue 82).run Tryz.prog w = .ok (wgtS.cod.enc wgtS.zero) w := fun w => wgtS.zeroRun w
 obtain ⟨W0, hW0⟩ : ∃ W0, W0 = w.alloc (wgtS.obj wgtS.zero) := ⟨_, rfl⟩
 have hB0 : Below w.heap.size w W0 := by rw [hW0]; exact (Below.refl _ w).alloc (Nat.le_refl _) _
 have h0 : GrAt wgtS.cod 189 g M F W0 := h.keep (Grow.of_below hB0) (fun k hk => hB0.block k (h.2.2.1 k hk))
 have key : ∃ mv mi, W0.cell? ⟨g, 0, none⟩ = some (.map mv) ∧ (Instr.lookup 187 (.map mv) (.int .i64 a) false).run Tryz.prog W0 = .ok (.map mi) W0 ∧
  (Instr.lookup 195 (.map mi) (.int .i64 b) true).run Tryz.prog W0 = .ok (.tuple #[wgtS.v ((cget M a b).getD wgtS.zero), .bool (cget M a b).isSome]) W0 := by
  obtain ⟨_, _, _, (⟨rfl, hh⟩ | ⟨B, C, rm, cm, hh, hM, _⟩)⟩ := h0
  · refine ⟨none, none, by rw [World.cell?, hh]; rfl, nil_look hu1 (hz1 W0) ha false, ?_⟩
    exact nil_look hu2 (hz2 W0) hb true
  · have hl := hM.row.map.look (z0 := none) hu1 (hz1 W0) ha
    cases hs : sget rm a with
    | none =>
     rw [hs] at hl
     refine ⟨some B, none, by rw [World.cell?, hh]; rfl, hl, ?_⟩
     have hr := hM.row.isNil hs
     have : cget M a b = none := by rw [cget, hr]; rfl
     rw [this]
     exact nil_look hu2 (hz2 W0) hb true
    | some x =>
     obtain ⟨b', rfl, _, _, h3⟩ := hM.row.at_ a x hs
     rw [hs] at hl
     exact ⟨some B, some b', by rw [World.cell?, hh]; rfl, hl, h3.look_ok hu2 (hz2 W0) hb⟩
 obtain ⟨mv, mi, hc, h1, h2⟩ := key
 obtain ⟨t, ht⟩ : ∃ t, t = (cget M a b).getD wgtS.zero := ⟨_, rfl⟩
 obtain ⟨q, hq⟩ : ∃ q, q = (cget M a b).isSome := ⟨_, rfl⟩
 rw [← ht, ← hq] at h2
 rw [← ht, ← hq]
 obtain ⟨rb, hrb⟩ : ∃ rb, rb = w.heap.size := ⟨_, rfl⟩
 have hz : W0.heap[rb]? = some (wgtS.obj wgtS.zero) := by rw [hW0, hrb]; exact World.alloc_heap_new w _
 have hlt : rb < W0.heap.size := by rw [hW0, hrb]; simp
 have hk0 : (W0.alloc (wgtS.obj t)).heap[rb]? = some (wgtS.obj wgtS.zero) := (Below.heap_alloc _ _ _ hlt).trans hz
 have hr1 : ((W0.alloc (wgtS.obj t)).setRow rb (wgtS.f t).toArray).rangeAt rb 0 (wgtS.f t) := rangeAt_whole (T := wgtS.T) (setRow_heap _ _ _ _ _ _ hk0)
 have H1 := Lib.hid h1
 have H2 := Lib.hid h2
 have HK := Lib.hid (And.intro hk0 hr1)
 have HW0 := Lib.hid (And.intro hW0 hrb)
 clear h h0 h1 h2 hu1 hu2 hz1 hz2 ha hb ht hq hB0 hW0 hrb hz hk0 hr1 hlt
 go_enter Tryz.func105, Tryz.ntmps105
 have tok1 : True := trivial
 go_upto_region 1 with (first
  | (refine wpl_allocS (s := wgtS) rfl rfl rfl ?_)
  | fail)
 rw [← HW0.out.1, ← HW0.out.2]
 go_wp2_with (first
  | (at_lookup; have _t := tok1; refine wpl_look rfl _ _ _ _ rfl rfl rfl H1.out ?_; clear tok1)
  | (at_lookup; refine wpl_look rfl _ _ _ _ rfl rfl rfl H2.out ?_)
  | (refine wpl_allocS (s := wgtS) rfl rfl rfl ?_)
  | (refine wpl_storeS (s := wgtS) (t := t) (b := W0.heap.size) _ _ rfl rfl rfl rfl rfl (World.alloc_heap_new W0 _) (zeroS wgtS) ?_; rw [newS])
  | (refine wpl_loadS (s := wgtS) (t := t) (b := W0.heap.size) (k := 0) _ rfl rfl rfl rfl (atS wgtS W0 t) ?_)
  | (refine wpl_storeS (s := wgtS) (t := t) (b := rb) _ _ rfl rfl rfl rfl rfl HK.out.1 (zeroS wgtS) ?_)
  | fail)
 exact bodyPost_ret (v := .tuple #[wgtS.v t, .bool q]) (results_S2 (s := wgtS) Tryz.results105 rfl rfl HK.out.2) rfl ⟨rfl, by rw [HW0.out.1, HW0.out.2]; rfl⟩
theorem grid_Get_W {g : Nat} {M : Cls Wgt} {F : FP} {w : World} (h : GrAt wgtS.cod 189 g M F w) {a b : Int} (ha : (Lit.int .i64 a).wf = true) (hb : (Lit.int .i64 b).wf = true) :
 Calls Tryz.prog 105 #[.pointer (some ⟨g, 0, none⟩), .int .i64 a, .int .i64 b] w fun e w' => e = .returned (.tuple #[wgtS.v ((cget M a b).getD wgtS.zero), .bool (cget M a b).isSome]) ∧ Below w.heap.size w w' :=
 (grid_GetE_W h ha hb).mono fun e w' ⟨he, hw⟩ => ⟨he, by rw [hw]; exact wgtS.getW_below w _⟩
theorem grid_New_Q (w : World) : Calls Tryz.prog 85 #[] w fun e w' => e = .returned (.pointer (some ⟨w.heap.size, 0, none⟩)) ∧ w' = w.alloc (.cells #[.map none, .map none, .int .i64 0] 165) := by
 go_enter Tryz.func85, Tryz.ntmps85
 go_wp2
 go_ret
 exact ⟨rfl, rfl⟩
theorem GrAt.new_Q (w : World) : GrAt priS.cod 165 w.heap.size [] (fun k => k = w.heap.size) (w.alloc (.cells #[.map none, .map none, .int .i64 0] 165)) :=
 ⟨List.Pairwise.nil, rfl, fun k hk => by subst hk; simp, .inl ⟨rfl, World.alloc_heap_new w _⟩⟩
set_option maxRecDepth 100000 in
set_option maxHeartbeats 2000000 in
theorem grid_GetE_Q {g : Nat} {M : Cls Wgt} {F : FP} {w : World} (h : GrAt priS.cod 165 g M F w) {a b : Int} (ha : (Lit.int .i64 a).wf = true) (hb : (Lit.int .i64 b).wf = true) :
 Calls Tryz.prog 50 #[.pointer (some ⟨g, 0, none⟩), .int .i64 a, .int .i64 b] w fun e w' => e = .returned (.tuple #[priS.v ((cget M a b).getD priS.zero), .bool (cget M a b).isSome]) ∧ w' = priS.getW w ((cget M a b).getD priS.zero) := by
 have hu1 : Tryz.prog.underlying 163 = some (.map 3 162) := Tryz.underlying163
 have hu2 : Tryz.prog.underlying 162 = some (.map 3 104) := Tryz.underlying162
 have hz1 : ∀ w, (zeroValue 162).run Tryz.prog w = .ok (codM.enc none) w := fun w => Tryz.zeroValue162 w
 have hz2 : ∀ w, (zeroValue 104).run Tryz.prog w = .ok (priS.cod.enc priS.zero) w := fun w => priS.zeroRun w
 obtain ⟨W0, hW0⟩ : ∃ W0, W0 = w.alloc (priS.obj priS.zero) := ⟨_, rfl⟩
 have hB0 : Below w.heap.size w W0 := by rw [hW0]; exact (Below.refl _ w).alloc (Nat.le_refl _) _
 have h0 : GrAt priS.cod 165 g M F W0 := h.keep (Grow.of_below hB0) (fun k hk => hB0.block k (h.2.2.1 k hk))
 have key : ∃ mv mi, W0.cell? ⟨g, 0, none⟩ = some (.map mv) ∧ (Instr.lookup 163 (.map mv) (.int .i64 a) false).run Tryz.prog W0 = .ok (.map mi) W0 ∧
  (Instr.lookup 162 (.map mi) (.int .i64 b) true).run Tryz.prog W0 = .ok (.tuple #[priS.v ((cget M a b).getD priS.zero), .bool (cget M a b).isSome]) W0 := by
  obtain ⟨_, _, _, (⟨rfl, hh⟩ | ⟨B, C, rm, cm, hh, hM, _⟩)⟩ := h0
  · refine ⟨none, none, by rw [World.cell?, hh]; rfl, nil_look hu1 (hz1 W0) ha false, ?_⟩
    exact nil_look hu2 (hz2 W0) hb true
  · have hl := hM.row.map.look (z0 := none) hu1 (hz1 W0) ha
    cases hs : sget rm a with
    | none =>
     rw [hs] at hl
     refine ⟨some B, none, by rw [World.cell?, hh]; rfl, hl, ?_⟩
     have hr := hM.row.isNil hs
     have : cget M a b = none := by rw [cget, hr]; rfl
     rw [this]
     exact nil_look hu2 (hz2 W0) hb true
    | some x =>
     obtain ⟨b', rfl, _, _, h3⟩ := hM.row.at_ a x hs
     rw [hs] at hl
     exact ⟨some B, some b', by rw [World.cell?, hh]; rfl, hl, h3.look_ok hu2 (hz2 W0) hb⟩
 obtain ⟨mv, mi, hc, h1, h2⟩ := key
 obtain ⟨t, ht⟩ : ∃ t, t = (cget M a b).getD priS.zero := ⟨_, rfl⟩
 obtain ⟨q, hq⟩ : ∃ q, q = (cget M a b).isSome := ⟨_, rfl⟩
 rw [← ht, ← hq] at h2
 rw [← ht, ← hq]
 obtain ⟨rb, hrb⟩ : ∃ rb, rb = w.heap.size := ⟨_, rfl⟩
 have hz : W0.heap[rb]? = some (priS.obj priS.zero) := by rw [hW0, hrb]; exact World.alloc_heap_new w _
 have hlt : rb < W0.heap.size := by rw [hW0, hrb]; simp
 have hk0 : (W0.alloc (priS.obj t)).heap[rb]? = some (priS.obj priS.zero) := (Below.heap_alloc _ _ _ hlt).trans hz
 have hr1 : ((W0.alloc (priS.obj t)).setRow rb (priS.f t).toArray).rangeAt rb 0 (priS.f t) := rangeAt_whole (T := priS.T) (setRow_heap _ _ _ _ _ _ hk0)
 have H1 := Lib.hid h1
 have H2 := Lib.hid h2
 have HK := Lib.hid (And.intro hk0 hr1)
 have HW0 := Lib.hid (And.intro hW0 hrb)
 clear h h0 h1 h2 hu1 hu2 hz1 hz2 ha hb ht hq hB0 hW0 hrb hz hk0 hr1 hlt
 go_enter Tryz.func50, Tryz.ntmps50
 have tok1 : True := trivial
 go_upto_region 1 with (first
  | (refine wpl_allocS (s := priS) rfl rfl rfl ?_)
  | fail)
 rw [← HW0.out.1, ← HW0.out.2]
 go_wp2_with (first
  | (at_lookup; have _t := tok1; refine wpl_look rfl _ _ _ _ rfl rfl rfl H1.out ?_; clear tok1)
  | (at_lookup; refine wpl_look rfl _ _ _ _ rfl rfl rfl H2.out ?_)
  | (refine wpl_allocS (s := priS) rfl rfl rfl ?_)
  | (refine wpl_storeS (s := priS) (t := t) (b := W0.heap.size) _ _ rfl rfl rfl rfl rfl (World.alloc_heap_new W0 _) (zeroS priS) ?_; rw [newS])
  | (refine wpl_loadS (s := priS) (t := t) (b := W0.heap.size) (k := 0) _ rfl rfl rfl rfl (atS priS W0 t) ?_)
  | (refine wpl_storeS (s := priS) (t := t) (b := rb) _ _ rfl rfl rfl rfl rfl HK.out.1 (zeroS priS) ?_)
  | fail)
 exact bodyPost_ret (v := .tuple #[priS.v t, .bool q]) (results_S2 (s := priS) Tryz.results50 rfl rfl HK.out.2) rfl ⟨rfl, by rw [HW0.out.1, HW0.out.2]; rfl⟩
theorem grid_Get_Q {g : Nat} {M : Cls Wgt} {F : FP} {w : World} (h : GrAt priS.cod 165 g M F w) {a b : Int} (ha : (Lit.int .i64 a).wf = true) (hb : (Lit.int .i64 b).wf = true) :
 Calls Tryz.prog 50 #[.pointer (some ⟨g, 0, none⟩), .int .i64 a, .int .i64 b] w fun e w' => e = .returned (.tuple #[priS.v ((cget M a b).getD priS.zero), .bool (cget M a b).isSome]) ∧ Below w.heap.size w w' :=
 (grid_GetE_Q h ha hb).mono fun e w' ⟨he, hw⟩ => ⟨he, by rw [hw]; exact priS.getW_below w _⟩
end Go.Proofs.YtbpemdihoabbcaaGreat
end
