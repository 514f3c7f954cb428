/-
  Joined texts.
-/
import Derived.Deep.QuietTactic
import Derived.BigQuiet
import Derived.Deep.Slices
import Derived.Deep.RegionLaw
import Derived.Laws.OwnMore
import Derived.BigRegion
import Derived.RegionTactic
import Derived.StillTailTactics
import Derived.Test.YtbpemdihoabbcaaGreatMhj
namespace Go.Proofs.YtbpemdihoabbcaaGreat
set_option linter.unusedVariables false
set_option linter.unusedSimpArgs false
set_option maxRecDepth 100000
set_option maxHeartbeats 8000000
section
open Go.RowKit Go.Maps Go.Shelf
structure PvAt (p g vb N : Nat) (S : Vs) (A : Acc) (M : Cls Int) (now : Int) (Zn : FP) (w : World) : Prop where
 lv : LvAt g vb N S A M Zn w
 inv : VInv S
 key : KeyBox M
 pr : ∃ px py, w.heap[p]? = some (.cells #[.pointer (some ⟨g, 0, none⟩), .pointer (some ⟨vb, 0, none⟩), .pointer px, .pointer py, .int .i64 now] 38 (0, 0))
 nz : ¬ Zn p
 lo : N ≤ p
def PvTo (p g vb N : Nat) (S : Vs) (A : Acc) (M : Cls Int) (now : Int) (Zn : FP) (w w' : World) : Prop := ∃ Z', PvAt p g vb N S A M now Z' w' ∧ (∀ k, Z' k → Zn k ∨ w.heap.size ≤ k) ∧ Only Zn (fun _ => False) w w'
section
variable {p g vb N : Nat} {S S' : Vs} {A A' : Acc} {M M' : Cls Int} {now : Int} {Zn : FP} {w w' : World}
theorem PvAt.lt (h : PvAt p g vb N S A M now Zn w) : p < w.heap.size := by obtain ⟨px, py, h1⟩ := h.pr; exact (Array.getElem?_eq_some_iff.1 h1).1
theorem PvAt.cells (h : PvAt p g vb N S A M now Zn w) : w.cell? ⟨p, 0, none⟩ = some (.pointer (some ⟨g, 0, none⟩)) ∧ w.cell? ⟨p, 1, none⟩ = some (.pointer (some ⟨vb, 0, none⟩)) ∧ w.cell? ⟨p, 4, none⟩ = some (.int .i64 now) := by
 obtain ⟨px, py, h1⟩ := h.pr
 exact ⟨by rw [World.cell?, h1]; rfl, by rw [World.cell?, h1]; rfl, by rw [World.cell?, h1]; rfl⟩
theorem PvAt.keep (h : PvAt p g vb N S A M now Zn w) (hg : Grow w w') (hk : ∀ k, Zn k ∨ k = p → w'.heap[k]? = w.heap[k]?) : PvAt p g vb N S A M now Zn w' := by
 obtain ⟨px, py, h1⟩ := h.pr
 exact ⟨h.lv.keep hg (fun k hz => hk k (.inl hz)), h.inv, h.key, ⟨px, py, (hk p (.inr rfl)).trans h1⟩, h.nz, h.lo⟩
theorem PvAt.below (h : PvAt p g vb N S A M now Zn w) (hb : Below w.heap.size w w') : PvAt p g vb N S A M now Zn w' := h.keep (Grow.of_below hb) (fun k hk => hb.block k (hk.elim h.lv.lt (fun e => e ▸ h.lt)))
theorem PvAt.step (h : PvAt p g vb N S A M now Zn w) (ht : LvTo g vb N S' A' M' Zn w w') (hi : VInv S') (hk : KeyBox M') : PvTo p g vb N S' A' M' now Zn w w' := by
 obtain ⟨Z', k1, k2, k3⟩ := ht
 obtain ⟨px, py, h1⟩ := h.pr
 exact ⟨Z', ⟨k1, hi, hk, ⟨px, py, (k3.block p h.lt h.nz (fun h => h)).trans h1⟩, fun hz => (k2 p hz).elim h.nz (fun e => by have := h.lt; omega), h.lo⟩, k2, k3⟩
theorem PvTo.below (h : PvAt p g vb N S A M now Zn w) (ht : PvTo p g vb N S' A' M' now Zn w w') : Below N w w' := by
 obtain ⟨Z2, k1, k2, k3⟩ := ht
 exact k3.below h.lv.size (fun k hk => h.lv.lo hk) (fun k h => h.elim)
theorem PvAt.lenM (h : PvAt p g vb N S A M now Zn w) : M.length < 10000 := by
 obtain ⟨F, FL, h1, h2, h3, h4⟩ := h.lv
 have := h.key.len h2.srt.1
 omega
theorem PvAt.srtD (h : PvAt p g vb N S A M now Zn w) : SrtC S.V ∧ SrtC S.D ∧ SrtC S.G ∧ SrtC S.Q := by
 obtain ⟨F, FL, h1, h2, h3, h4⟩ := h.lv
 exact h1.srt
def Ans (p g vb N : Nat) (E : Int) (S : Vs) (A : Acc) (M : Cls Int) (now : Int) (Zn : FP) (w : World) (e : Ending) (w' : World) : Prop := e = .returned (.int .i64 E) ∧ PvTo p g vb N S A M now Zn w w'
theorem PvAt.vOpen (h : PvAt p g vb N S A M now Zn w) (r t : Int) : Calls Tryz.prog 20 #[.pointer (some ⟨vb, 0, none⟩), .int .i64 r, .int .i64 t] w (Ans p g vb N (openE S.P r t) (openS S r t) A M now Zn w) := by
 obtain ⟨F, hx, lift⟩ := h.lv.vo
 exact (hx.Open r t).mono fun e w' ⟨he, hto⟩ => ⟨he, h.step (lift _ _ hto) (h.inv.open r t) h.key⟩
theorem PvAt.vClose (h : PvAt p g vb N S A M now Zn w) (r st en : Int) : Calls Tryz.prog 21 #[.pointer (some ⟨vb, 0, none⟩), .int .i64 r, .int .i64 st, .int .i64 en] w (Ans p g vb N (closeE S.P r st) (closeS S r st en) A M now Zn w) := by
 obtain ⟨F, hx, lift⟩ := h.lv.vo
 exact (hx.Close r st en).mono fun e w' ⟨he, hto⟩ => ⟨he, h.step (lift _ _ hto) (h.inv.close r st en) h.key⟩
theorem PvAt.vUnvote (h : PvAt p g vb N S A M now Zn w) {a r : Int} (ha : (Lit.int .i64 a).wf = true) (hr : (Lit.int .i64 r).wf = true) (nw : Int) : Calls Tryz.prog 23 #[.pointer (some ⟨vb, 0, none⟩), .int .i64 a, .int .i64 r, .int .i64 nw] w (Ans p g vb N (unvoteE S a r) (unvoteS S a r nw) A M now Zn w) := by
 obtain ⟨F, hx, lift⟩ := h.lv.vo
 exact (hx.Unvote h.inv ha hr).mono fun e w' ⟨he, hto⟩ => ⟨he, h.step (lift _ _ hto) (h.inv.unvote a r nw) h.key⟩
theorem PvAt.vUndelegate (h : PvAt p g vb N S A M now Zn w) {a t : Int} (ha : (Lit.int .i64 a).wf = true) (ht : (Lit.int .i64 t).wf = true) (nw : Int) : Calls Tryz.prog 25 #[.pointer (some ⟨vb, 0, none⟩), .int .i64 a, .int .i64 t, .int .i64 nw] w (Ans p g vb N (undE S a t) (undS S a t nw) A M now Zn w) := by
 obtain ⟨F, hx, lift⟩ := h.lv.vo
 exact (hx.Undelegate h.inv ha ht).mono fun e w' ⟨he, hto⟩ => ⟨he, h.step (lift _ _ hto) (h.inv.und hx.srt.2.1 a t nw) h.key⟩
theorem PvAt.vVote (h : PvAt p g vb N S A M now Zn w) {a r : Int} (ha : (Lit.int .i64 a).wf = true) (hr : (Lit.int .i64 r).wf = true) (x : Bal) : Calls Tryz.prog 22 #[.pointer (some ⟨vb, 0, none⟩), .pointer (some ⟨g, 0, none⟩), .int .i64 a, .int .i64 r, .agg #[.int .i64 x.k, .bool x.aye, .int .i64 x.l, .int .i64 x.a, .int .i64 x.n, .int .i64 x.s]] w (Ans p g vb N (voteE S A a r x) (voteS S A a r x) A (voteM S A M a r x) now Zn w) :=
 (h.lv.Vote h.inv h.lenM ha hr x).mono fun e w' ⟨he, hto⟩ => ⟨he, h.step hto (h.inv.vote A a r x) (h.key.voteM h.inv A a r x)⟩
theorem PvAt.vDelegate (h : PvAt p g vb N S A M now Zn w) {a t who : Int} (ha : (Lit.int .i64 a).wf = true) (ht : (Lit.int .i64 t).wf = true) (l n : Int) : Calls Tryz.prog 24 #[.pointer (some ⟨vb, 0, none⟩), .pointer (some ⟨g, 0, none⟩), .int .i64 a, .int .i64 t, .int .i64 who, .int .i64 l, .int .i64 n] w (Ans p g vb N (delE S A a t who l n) (delS S A a t who l n) A (delM S A M a t who l n) now Zn w) :=
 (h.lv.Delegate h.inv h.lenM ha ht l n).mono fun e w' ⟨he, hto⟩ => ⟨he, h.step hto (h.inv.del A a t who l n) (h.key.delM S A a t who l n)⟩
theorem PvAt.vUnlock (h : PvAt p g vb N S A M now Zn w) {a t : Int} (ha : (Lit.int .i64 a).wf = true) (ht : (Lit.int .i64 t).wf = true) (nw : Int) : Calls Tryz.prog 26 #[.pointer (some ⟨vb, 0, none⟩), .pointer (some ⟨g, 0, none⟩), .int .i64 a, .int .i64 t, .int .i64 nw] w (Ans p g vb N (unlE a t) (unlS S a t nw) A (unlM S M a t nw) now Zn w) :=
 (h.lv.Unlock h.inv h.lenM ha ht).mono fun e w' ⟨he, hto⟩ => ⟨he, h.step hto (h.inv.unl a t nw) (h.key.unlM S a t nw)⟩
theorem PvAt.vTransfer (h : PvAt p g vb N S A M now Zn w) {a : Int} (ha : (Lit.int .i64 a).wf = true) (b n : Int) : Calls Tryz.prog 38 #[.pointer (some ⟨g, 0, none⟩), .int .i64 a, .int .i64 b, .int .i64 n] w (Ans p g vb N (transE A M a b n) S (transA A M a b n) M now Zn w) := by
 obtain ⟨FL, hx, lift⟩ := h.lv.ld
 exact (ledger_TransferX hx ha b n).mono fun e w' ⟨he, hto⟩ => ⟨he, h.step (lift _ _ _ hto) h.inv h.key⟩
def tallyOf (S : Vs) (r : Int) : Tl := if plHas S.P r then (S.P r.toNat).t else ⟨0, 0, 0⟩
theorem PvAt.vTally (h : PvAt p g vb N S A M now Zn w) (r : Int) : Calls Tryz.prog 13 #[.pointer (some ⟨vb, 0, none⟩), .int .i64 r] w fun e w' => e = .returned (.agg #[.int .i64 (tallyOf S r).a, .int .i64 (tallyOf S r).n, .int .i64 (tallyOf S r).s]) ∧ Below w.heap.size w w' := by
 obtain ⟨F, hx, lift⟩ := h.lv.vo
 obtain ⟨gv, gd, gw, gp, FV, FD, FW, FQ, h1, h2⟩ := hx
 refine (voting_Tally h1.blk r).mono fun e w' ⟨he, hb⟩ => ⟨?_, hb⟩
 rw [he]
 have e : (if (plPtr vb S.P r).isSome then (S.P r.toNat).t else tlyS.zero) = tallyOf S r := by
  unfold tallyOf
  by_cases hh : plHas S.P r
  · obtain ⟨k, -, -, -, hp⟩ := plPtr_has (vb := vb) hh
    rw [hp, if_pos hh]; rfl
  · rw [plPtr_none hh, if_neg hh]; rfl
 rw [e]; rfl
end
theorem VoAt.lower {vb gv gd gw gp N N' : Nat} {P : Nat → Pl} {V : Cls Bal} {D : Cls Dlg} {G Q : Cls Wgt} {FV FD FW FQ : FP} {w : World} (h : VoAt vb gv gd gw gp N P V D G Q FV FD FW FQ w) (hN : N' ≤ N) : VoAt vb gv gd gw gp N' P V D G Q FV FD FW FQ w :=
 ⟨h.blk, h.v, h.d, h.g, h.q, ⟨h.off.vd, h.off.vw, h.off.vq, h.off.dw, h.off.dq, h.off.wq, h.off.b, fun k hk => Nat.le_trans hN (h.off.n k hk), Nat.le_trans hN h.off.nb⟩⟩
def m24 (x : Int) : Int := bits .and .i64 x 16777215
theorem m24_in (x : Int) : 0 ≤ m24 x ∧ m24 x ≤ 16777215 := by
 have h7 : (BitVec.ofInt 64 x &&& BitVec.ofInt 64 16777215).toNat ≤ 16777215 := by
  rw [BitVec.toNat_and]
  exact Nat.le_trans Nat.and_le_right (by decide)
 have e : m24 x = ((BitVec.ofInt 64 x &&& BitVec.ofInt 64 16777215).toNat : Int) := by
  show IntKind.i64.wrap ((BitVec.ofInt 64 x &&& BitVec.ofInt 64 16777215).toNat : Int) = _
  exact IntWalk.i64_in _ (by omega)
 omega
theorem m24_id {x : Int} (h0 : 0 ≤ x) (h1 : x ≤ 16777215) : m24 x = x := by
 have e : (BitVec.ofInt 64 x).toNat = x.toNat := by rw [BitVec.toNat_ofInt]; omega
 have e2 : (BitVec.ofInt 64 x &&& BitVec.ofInt 64 16777215).toNat = x.toNat := by
  rw [BitVec.toNat_and, e, show (BitVec.ofInt 64 16777215).toNat = 2 ^ 24 - 1 from rfl, Nat.and_two_pow_sub_one_eq_mod]
  exact Nat.mod_eq_of_lt (by omega)
 show IntKind.i64.wrap ((BitVec.ofInt 64 x &&& BitVec.ofInt 64 16777215).toNat : Int) = _
 rw [e2, IntWalk.i64_in _ (by omega)]; omega
theorem newOk_24 {l : List Int} (hl : l.length ≤ 10) (h : ∀ n ∈ l, 0 ≤ n ∧ n ≤ 16777215) : newOk l := by
 have hg : ∀ k, 0 ≤ l.getD k 0 ∧ l.getD k 0 ≤ 16777215 := fun k => by
  by_cases c : k < l.length
  · rw [List.getD_eq_getElem?_getD, List.getElem?_eq_getElem c]; exact h _ (List.getElem_mem _)
  · rw [List.getD_eq_getElem?_getD, List.getElem?_eq_none (by omega)]; simp
 refine ⟨hl, fun k _ => by have := hg k; unfold isBal; omega, ?_⟩
 have key : ∀ n : Nat, sumTo (accL l) n ≤ n * 16777215 := by
  intro n
  induction n with
  | zero => simp [sumTo]
  | succ n ih =>
   rw [sumTo]
   have : both (accL l) n = l.getD n 0 := by unfold both accL; simp only; omega
   rw [this]
   have := hg n
   omega
 have := key 10
 omega
end
section
open Go.RowKit Go.Maps Go.Shelf
def frees (l : List Int) : List Int := (l.take 10).map m24
theorem frees_snoc {l : List Int} {k : Nat} (h : k < l.length) (h10 : k < 10) : frees (l.take (k + 1)) = frees (l.take k) ++ [m24 (l.getD k 0)] := by
 unfold frees
 rw [List.take_take, List.take_take, Nat.min_eq_right (by omega), Nat.min_eq_right (by omega), List.take_succ_eq_append_getElem h, List.map_append, List.getD_eq_getElem?_getD, List.getElem?_eq_getElem h]
 rfl
theorem LdX.lower {g N N' : Nat} {A : Acc} {M : Cls Int} {FL : FP} {w : World} (h : LdX g N A M FL w) (hN : N' ≤ N) : LdX g N' A M FL w := by
 obtain ⟨gl, F, h1, h2, h3, h4, h5, h6, h7⟩ := h
 exact ⟨gl, F, h1, h2, fun k hk => ⟨Nat.le_trans hN (h3 k hk).1, (h3 k hk).2⟩, Nat.le_trans hN h4, h5, h6, h7⟩
theorem VoX.made {vb gv gd gw gp N : Nat} {FV FD FW FQ : FP} {w : World} (h : VoAt vb gv gd gw gp N (fun _ => Pl.zero) [] [] [] [] FV FD FW FQ w) : VoX vb N Vs.zero (fun k => k = vb ∨ FV k ∨ FD k ∨ FW k ∨ FQ k) w := ⟨gv, gd, gw, gp, FV, FD, FW, FQ, h, fun k => Iff.rfl⟩
theorem law11_begin (v : Value) (l : List Int) (w : World) (hr : RdI w v l) (hlen : l.length ≤ 1000) : Calls Tryz.prog 7 #[v] w fun e w' => ∃ p g vb Zn, e = .returned (.pointer (some ⟨p, 0, none⟩)) ∧ PvAt p g vb w.heap.size Vs.zero (accL (frees l)) [] 0 Zn w' ∧ Below w.heap.size w w' := by
 obtain ⟨ao, cap, rfl⟩ := hr.lenOf
 obtain ⟨L, hL⟩ : ∃ L, L = l.length := ⟨_, rfl⟩
 rw [← hL] at hr hlen ⊢
 have HR := Lib.hid (And.intro hr hL)
 clear hr hL
 go_enter Tryz.func7, Tryz.ntmps7
 go_wp2_with fail
 go_loopw [3, 4] (fun u i wr => ∃ (k : Nat), k ≤ L ∧ k ≤ 10 ∧ i = .int .i64 k ∧ OwnN w.heap.size u (frees (l.take k)) wr ∧ Below w.heap.size w wr) (fun _ i _ => L - (intOf i).toNat)
 case atStart => exact ⟨0, by omega, by omega, rfl, OwnN.nil _ _, Below.refl _ _⟩
 case round =>
  obtain ⟨k, hk, hk10, rfl, how, hbl⟩ := hrel
  have hnl : (frees (l.take k)).length = k := by unfold frees; rw [List.length_map, List.length_take, List.length_take, ← HR.out.2]; omega
  have HS := Lib.hid (And.intro hnl (And.intro how hbl))
  by_cases hlt : k < L ∧ k < 10
  · obtain ⟨hlt, h10⟩ := hlt
    have hlt' : (k : Int) < L := by omega
    have h10' : (k : Int) < 10 := by omega
    obtain ⟨a, rfl, ca⟩ := (HR.out.1.below hbl).at (show k < l.length by rw [← HR.out.2]; exact hlt)
    obtain ⟨x, hx⟩ : ∃ x, x = l.getD k 0 := ⟨_, rfl⟩
    rw [← hx] at ca
    obtain ⟨z, hz⟩ : ∃ z, bits .and .i64 x 16777215 = z := ⟨_, rfl⟩
    have hsn := frees_snoc (l := l) (k := k) (by rw [← HR.out.2]; exact hlt) h10
    have HZ := Lib.hid (And.intro hsn (And.intro hx hz))
    clear hx hnl how hbl hsn
    go_wp2_with (first
     | (at_builtin; refine wpl_appN (B := w.heap.size) (ub := wr.heap.size) (xs := frees (l.take k)) (y := z) rfl rfl rfl rfl (HS.out.2.1.of (Nat.le_refl _) (fun k hk => Below.heap_alloc _ _ _ (HS.out.2.1.block hk).2)) (by rw [World.cell?, World.alloc_heap_new]; rfl) (by have := HS.out.1; omega) (by have := HS.out.2.2.size; rw [World.size_alloc]; omega) ?_; intro v' w4 hO4 hg4; have HO4 := Lib.hid hO4; have HG4 := Lib.hid hg4; clear hO4 hg4)
     | fail)
    go_roundw
    case rel =>
     refine ⟨k + 1, by omega, by omega, by go_num, ?_, ?_⟩
     · rw [HZ.out.1, ← HZ.out.2.1]
       unfold m24
       rw [HZ.out.2.2]
       exact HO4.out
     · exact Below.grown (HS.out.2.2.alloc HS.out.2.2.size _) HG4.out (by have := HS.out.2.2.size; rw [World.size_alloc]; omega) (fun j hj => (HS.out.2.1.block hj).1)
    case measure => simp [intOf]; omega
  · have hall : frees (l.take k) = frees l := by
     unfold frees
     rw [List.take_take]
     congr 1
     by_cases h1 : k < L
     · have e : k = 10 := by omega
       subst e; rfl
     · have e : k = l.length := by rw [← HR.out.2]; omega
       rw [e, List.take_of_length_le (by omega), List.take_of_length_le (by rw [← HR.out.2]; omega)]
    have hin : ∀ n ∈ frees l, 0 ≤ n ∧ n ≤ 16777215 := fun n hn => by
     obtain ⟨x, -, rfl⟩ := List.mem_map.1 hn
     exact m24_in x
    rw [hall] at hnl how HS
    have hok := newOk_24 (l := frees l) (by omega) hin
    have hrd := how.readsI
    have HK := Lib.hid (And.intro hok (And.intro hrd (show (frees l).length ≤ maxLen by unfold maxLen; omega)))
    have HK2 := Lib.hid (show (frees l).length ≤ 10 by omega)
    have hgd : ((k : Int) < L) = True ∧ ((k : Int) < 10) = False ∨ ((k : Int) < L) = False := by
     by_cases h1 : k < L
     · exact .inl ⟨by simp; omega, by simp; omega⟩
     · exact .inr (by simp; omega)
    clear hnl how hbl hok hrd hall hin hlt hk hk10
    rcases hgd with ⟨g1, g2⟩ | g1
    all_goals
     go_wp2_with (first
      | (go_at_call 27; refine (ledger_New_ok HK.out.2.1 HK.out.2.2 HK.out.1).mono ?_; rintro e w1 ⟨g, gl, rfl, hl, hb⟩; have H1 := Lib.hid (And.intro hl hb); clear hl hb)
      | (go_at_call 28; refine (ref6_New _ (frees l) w1 (HK.out.2.1.below H1.out.2) HK2.out).mono ?_; rintro e w2 ⟨px, c, rfl, hb⟩; have H2 := Lib.hid hb; clear hb)
      | (go_at_call 29; refine (voting_NewV w2).mono ?_; rintro e w3 ⟨vb, gv, gd, gw, gp, FV, FD, FW, FQ, rfl, hv, hb⟩; have H3 := Lib.hid (And.intro hv hb); clear hv hb)
      | (go_at_call 30; refine (ref11_New w3).mono ?_; rintro e w4 ⟨py, rfl, hb⟩; have H4 := Lib.hid hb; clear hb)
      | fail)
     have s1 := H1.out.2.size
     have s0 := HS.out.2.2.size
     have s2 := H2.out.size
     have s3 := H3.out.2.size
     have s4 := H4.out.size
     obtain ⟨FL, hld, -⟩ := LdX.of H1.out.1
     have hld1 := hld.lower s0
     have hvo3 := VoX.made (H3.out.1.lower (N' := w.heap.size) (by omega))
     have b5 : Below w4.heap.size w4 (w4.alloc (.cells #[.pointer (some ⟨g, 0, none⟩), .pointer (some ⟨vb, 0, none⟩), .pointer px, .pointer py, .int .i64 0] 38)) := (Below.refl _ w4).alloc (Nat.le_refl _) _
     have b45 := H4.out.trans (b5.mono s4)
     have b15 := H2.out.trans ((H3.out.2.trans (b45.mono s3)).mono s2)
     have hlt : ∀ k, (k = vb ∨ FV k ∨ FD k ∨ FW k ∨ FQ k) → w2.heap.size ≤ k ∧ k < w3.heap.size := fun k hk => ⟨by
      rcases hk with e | e
      · rw [e]; exact H3.out.1.off.nb
      · exact H3.out.1.off.n k e, H3.out.1.lt hk⟩
     have hlv : LvAt g vb w.heap.size Vs.zero (accL (frees l)) [] (fun k => (k = vb ∨ FV k ∨ FD k ∨ FW k ∨ FQ k) ∨ FL k) (w4.alloc (.cells #[.pointer (some ⟨g, 0, none⟩), .pointer (some ⟨vb, 0, none⟩), .pointer px, .pointer py, .int .i64 0] 38)) :=
      ⟨_, FL, hvo3.below b45, hld1.below b15, fun k hk hf => by have := hlt k hk; have := hld.lt hf; omega, fun k => Iff.rfl⟩
     refine bodyPost_ret (v := .pointer (some ⟨w4.heap.size, 0, none⟩)) (by simp [results, Tryz.results7, go_sem]) rfl ⟨w4.heap.size, g, vb, _, rfl, ⟨hlv, VInv.zero, fun x hx => (List.not_mem_nil hx).elim, ⟨px, py, World.alloc_heap_new _ _⟩, ?_, by omega⟩, ?_⟩
     · rintro (hk | hk)
       · have := hlt _ hk; omega
       · have := hld.lt hk; omega
     · exact HS.out.2.2.trans ((H1.out.2.trans (b15.mono s1)).mono s0)
end
section
open Go.RowKit Go.Maps Go.Shelf
def Pv1 (p g vb N : Nat) (S : Vs) (A : Acc) (M : Cls Int) (w0 w : World) : Prop := ∃ Zn, PvAt p g vb N S A M 0 Zn w ∧ Below N w0 w
section
variable {p g vb N : Nat} {S S' : Vs} {A A' : Acc} {M M' : Cls Int} {w0 w w' : World}
theorem Pv1.below (h : Pv1 p g vb N S A M w0 w) (hb : Below w.heap.size w w') : Pv1 p g vb N S A M w0 w' := by
 obtain ⟨Zn, h1, h2⟩ := h
 exact ⟨Zn, h1.below hb, h2.trans (hb.mono h1.lv.size)⟩
theorem Pv1.drew (h : Pv1 p g vb N S A M w0 w) : Pv1 p g vb N S A M w0 w.drew := h.below (Below.refl _ w).drew
theorem Pv1.cells (h : Pv1 p g vb N S A M w0 w) : w.cell? ⟨p, 0, none⟩ = some (.pointer (some ⟨g, 0, none⟩)) ∧ w.cell? ⟨p, 1, none⟩ = some (.pointer (some ⟨vb, 0, none⟩)) ∧ w.cell? ⟨p, 4, none⟩ = some (.int .i64 0) := by
 obtain ⟨Zn, h1, h2⟩ := h
 exact h1.cells
theorem Pv1.dcells (h : Pv1 p g vb N S A M w0 w) : w.drew.cell? ⟨p, 0, none⟩ = some (.pointer (some ⟨g, 0, none⟩)) ∧ w.drew.cell? ⟨p, 1, none⟩ = some (.pointer (some ⟨vb, 0, none⟩)) ∧ w.drew.cell? ⟨p, 4, none⟩ = some (.int .i64 0) := h.drew.cells
theorem Pv1.bl (h : Pv1 p g vb N S A M w0 w) : Below N w0 w := by obtain ⟨Zn, h1, h2⟩ := h; exact h2
theorem Pv1.vOpen (h : Pv1 p g vb N S A M w0 w) (r t : Int) : Calls Tryz.prog 20 #[.pointer (some ⟨vb, 0, none⟩), .int .i64 r, .int .i64 t] w fun e w' => e = .returned (.int .i64 (openE S.P r t)) ∧ Pv1 p g vb N (openS S r t) A M w0 w' := by
 obtain ⟨Zn, h1, h2⟩ := h
 refine (h1.vOpen r t).mono ?_
 rintro e w' ⟨he, hto⟩
 have hb := PvTo.below h1 hto
 obtain ⟨Z', k1, -, -⟩ := hto
 exact ⟨he, Z', k1, h2.trans hb⟩
theorem Pv1.vVote (h : Pv1 p g vb N S A M w0 w) {a r : Int} (ha : (Lit.int .i64 a).wf = true) (hr : (Lit.int .i64 r).wf = true) (x : Bal) : Calls Tryz.prog 22 #[.pointer (some ⟨vb, 0, none⟩), .pointer (some ⟨g, 0, none⟩), .int .i64 a, .int .i64 r, .agg #[.int .i64 x.k, .bool x.aye, .int .i64 x.l, .int .i64 x.a, .int .i64 x.n, .int .i64 x.s]] w fun e w' => e = .returned (.int .i64 (voteE S A a r x)) ∧ Pv1 p g vb N (voteS S A a r x) A (voteM S A M a r x) w0 w' := by
 obtain ⟨Zn, h1, h2⟩ := h
 refine (h1.vVote ha hr x).mono ?_
 rintro e w' ⟨he, hto⟩
 have hb := PvTo.below h1 hto
 obtain ⟨Z', k1, -, -⟩ := hto
 exact ⟨he, Z', k1, h2.trans hb⟩
theorem Pv1.vDelegate (h : Pv1 p g vb N S A M w0 w) {a t who : Int} (ha : (Lit.int .i64 a).wf = true) (ht : (Lit.int .i64 t).wf = true) (l n : Int) : Calls Tryz.prog 24 #[.pointer (some ⟨vb, 0, none⟩), .pointer (some ⟨g, 0, none⟩), .int .i64 a, .int .i64 t, .int .i64 who, .int .i64 l, .int .i64 n] w fun e w' => e = .returned (.int .i64 (delE S A a t who l n)) ∧ Pv1 p g vb N (delS S A a t who l n) A (delM S A M a t who l n) w0 w' := by
 obtain ⟨Zn, h1, h2⟩ := h
 refine (h1.vDelegate ha ht l n).mono ?_
 rintro e w' ⟨he, hto⟩
 have hb := PvTo.below h1 hto
 obtain ⟨Z', k1, -, -⟩ := hto
 exact ⟨he, Z', k1, h2.trans hb⟩
theorem Pv1.vTally (h : Pv1 p g vb N S A M w0 w) (r : Int) : Calls Tryz.prog 13 #[.pointer (some ⟨vb, 0, none⟩), .int .i64 r] w fun e w' => e = .returned (.agg #[.int .i64 (tallyOf S r).a, .int .i64 (tallyOf S r).n, .int .i64 (tallyOf S r).s]) ∧ Pv1 p g vb N S A M w0 w' := by
 have h' := h
 obtain ⟨Zn, h1, h2⟩ := h
 exact (h1.vTally r).mono fun e w' ⟨he, hb⟩ => ⟨he, h'.below hb⟩
end
theorem begin1 (v : Value) (l : List Int) (w : World) (hr : RdI w v l) (hlen : l.length ≤ 10) (hl : ∀ x ∈ l, 0 ≤ x ∧ x ≤ 16777215) : Calls Tryz.prog 7 #[v] w fun e w' => ∃ p g vb, e = .returned (.pointer (some ⟨p, 0, none⟩)) ∧ Pv1 p g vb w.heap.size Vs.zero (accL l) [] w w' := by
 refine (law11_begin v l w hr (by omega)).mono ?_
 rintro e w' ⟨p, g, vb, Zn, he, hp, hb⟩
 have e1 : frees l = l := by
  unfold frees
  rw [List.take_of_length_le hlen]
  exact (List.map_congr_left (fun x hx => m24_id (hl x hx).1 (hl x hx).2)).trans (List.map_id _)
 rw [e1] at hp
 exact ⟨p, g, vb, he, Zn, hp, hb⟩
def kA : Acc := accL [0, 10, 10]
def kS1 : Vs := openS Vs.zero 0 1
def kS2 : Vs := delS kS1 kA 2 1 1 1 10
def kX : Bal := ⟨1, true, 2, 10, 0, 0⟩
def kS3 : Vs := voteS kS2 kA 1 0 kX
theorem k_ok : openE Vs.zero.P 0 1 = 0 ∧ delE kS1 kA 2 1 1 1 10 = 0 ∧ voteE kS2 kA 1 0 kX = 0 ∧ tallyOf kS3 0 = ⟨30, 0, 20⟩ := by decide +kernel
theorem law11_known (w : World) : Calls Tryz.prog 10 #[] w fun e w' => e = .returned (.bool true) ∧ Below w.heap.size w w' := by
 obtain ⟨w1, hw1⟩ : ∃ w1, w1 = w.alloc (.cells #[.int .i64 0, .int .i64 10, .int .i64 10] 3) := ⟨_, rfl⟩
 have hrd : RdI w1 (.slice (some ⟨w.heap.size, 0, none⟩) 3 3) [0, 10, 10] := by rw [hw1]; exact RdI.lit w 3 [0, 10, 10] 3 rfl
 have hb1 : Below w.heap.size w w1 := by rw [hw1]; exact (Below.refl _ w).alloc (Nat.le_refl _) _
 have hbg := begin1 _ _ w1 hrd (by decide) (by decide)
 have HB := Lib.hid hbg
 have H1 := Lib.hid hb1
 have HW := Lib.hid hw1
 obtain ⟨e1, e2, e3, e4⟩ := k_ok
 have HE := Lib.hid (And.intro e1 (And.intro e2 (And.intro e3 e4)))
 clear hrd hb1 hbg hw1 e1 e2 e3 e4
 go_enter Tryz.func10, Tryz.ntmps10
 go_upto_region 4 with (first
  | (go_at_call 7; rw [← HW.out]; refine HB.out.mono ?_; rintro e w2 ⟨p, g, vb, rfl, hp⟩; have Q2 := Lib.hid hp; clear hp)
  | fail)
 obtain ⟨c0, c1, -⟩ := Q2.out.cells
 go_upto_region 5 with (first
  | (go_at_call 20; refine (Q2.out.vOpen 0 1).mono ?_; rw [HE.out.1]; rintro e w3 ⟨rfl, hp⟩; have Q3 := Lib.hid (show Pv1 p g vb w1.heap.size kS1 kA [] w1 w3 from hp); clear hp)
  | fail)
 obtain ⟨d0, d1, -⟩ := Q3.out.dcells
 go_still_tail 8, (by kernel_rfl)
 change wpList _ _ _ _ _ w3.drew
 go_upto_region 6 with (first
  | (go_at_call 24; refine (Q3.out.drew.vDelegate (a := 2) (t := 1) (who := 1) (by decide) (by decide) 1 10).mono ?_; rw [HE.out.2.1]; rintro e w4 ⟨rfl, hp⟩; have Q4 := Lib.hid (show Pv1 p g vb w1.heap.size kS2 kA (delM kS1 kA [] 2 1 1 1 10) w1 w4 from hp); clear hp)
  | fail)
 obtain ⟨f0, f1, -⟩ := Q4.out.dcells
 go_still_tail 9, (by kernel_rfl)
 change wpList _ _ _ _ _ w4.drew
 go_upto_region 7 with (first
  | (go_at_call 22; refine (Q4.out.drew.vVote (a := 1) (r := 0) (by decide) (by decide) kX).mono ?_; rw [HE.out.2.2.1]; rintro e w5 ⟨rfl, hp⟩; have Q5 := Lib.hid (show Pv1 p g vb w1.heap.size kS3 kA (voteM kS2 kA (delM kS1 kA [] 2 1 1 1 10) 1 0 kX) w1 w5 from hp); clear hp)
  | fail)
 obtain ⟨g0, g1, -⟩ := Q5.out.cells
 go_wp2_with (first
  | (go_at_call 13; refine (Q5.out.vTally 0).mono ?_; rw [HE.out.2.2.2]; rintro e w6 ⟨rfl, hp⟩; have Q6 := Lib.hid hp; clear hp)
  | fail)
 exact bodyPost_ret (v := .bool true) (by simp [results, Tryz.results10, go_sem]) rfl ⟨rfl, H1.out.trans (Q6.out.bl.mono H1.out.size)⟩
end
section
open Go.RowKit Go.Maps Go.Shelf
section
variable {S : Vs} {A : Acc} {M : Cls Int} {a r t who l n : Int} {x : Bal}
end
end
section
open Go.RowKit Go.Maps Go.Shelf
section
variable {p g vb N : Nat} {S S' : Vs} {A A' : Acc} {M M' : Cls Int} {bs : List (Nat × List Value)} {w0 w w' : World}
end
end
section
open Go.RowKit
theorem ref_Gain2 (k : Int) (hk : k = 2 ∨ k = 3) (aye : Bool) (l a n s v c : Int) (w : World) (a0 : 0 ≤ a) (a1 : a ≤ 1073741824) (n0 : 0 ≤ n) (n1 : n ≤ 1073741824) (s0 : 0 ≤ s) (s1 : s ≤ 1073741824) :
 Calls Tryz.prog 46 #[vote k aye l a n s, weight v c] w fun e w' => e = .returned (tally (gainA k aye l a v) (gainN k aye l a n v) (gainS k aye a s c)) ∧ Below w.heap.size w w' := by
 have W1 : IntKind.i64.wrap (a + s) = a + s := IntWalk.i64_in _ (by omega)
 rcases hk with rfl | rfl
 · go_enter Tryz.func46, Tryz.ntmps46
   go_wp2_with fail
   have B1 : VBox w 2 aye l a n s (((w.alloc (.cells #[.int .i64 2, .bool aye, .int .i64 l, .int .i64 a, .int .i64 n, .int .i64 s] 28)).alloc (.cells #[.int .i64 v, .int .i64 c] 82)).alloc (.cells #[.int .i64 0, .int .i64 0, .int .i64 0] 41)) := (VBox.new.below (below_new (Below.refl _ _) _)).below (below_new (Below.refl _ _) _)
   have B2 : VBox w 2 aye l a n s (((w.alloc (.cells #[.int .i64 2, .bool aye, .int .i64 l, .int .i64 a, .int .i64 n, .int .i64 s] 28)).alloc (.cells #[.int .i64 v, .int .i64 c] 82)).alloc (.cells #[.int .i64 (votesI a 0), .int .i64 (votesI n 0), .int .i64 (a + s)] 41)) := (VBox.new.below (below_new (Below.refl _ _) _)).below (below_new (Below.refl _ _) _)
   go_region_held3 (fun w' => w'.cell? ⟨w.heap.size, 0, none⟩ = some (.int .i64 2) ∧ w'.cell? ⟨w.heap.size, 1, none⟩ = some (.bool aye) ∧ w'.cell? ⟨w.heap.size, 2, none⟩ = some (.int .i64 l) ∧ w'.cell? ⟨w.heap.size, 3, none⟩ = some (.int .i64 a) ∧ w'.cell? ⟨w.heap.size, 4, none⟩ = some (.int .i64 n) ∧ w'.cell? ⟨w.heap.size, 5, none⟩ = some (.int .i64 s)) (first | exact B1.all | exact B2.all | fail) (first | (go_at_call 44; refine (ref_Votes _ _ _ (by omega) (by omega) (by omega) (by omega)).mono ?_; rintro e w' ⟨rfl, rfl⟩) | fail)
   go_wp2
   exact bodyPost_ret (v := tally (gainA 2 aye l a v) (gainN 2 aye l a n v) (gainS 2 aye a s c)) (by simp [results, Tryz.results46, go_sem, gainA, gainN, gainS]) rfl ⟨rfl, (by repeat (first | exact Below.refl _ _ | refine below_dn ?_ _ | refine Below.drew ?_ | refine below_new ?_ _ | refine Below.setCell ?_ (Nat.le_refl _) _ | refine Below.setCell ?_ (Nat.le_succ _) _ | refine Below.setCell ?_ (Nat.le_trans (Nat.le_succ _) (Nat.le_succ _)) _))⟩
 · go_enter Tryz.func46, Tryz.ntmps46
   go_wp2_with fail
   have B1 : VBox w 3 aye l a n s (((w.alloc (.cells #[.int .i64 3, .bool aye, .int .i64 l, .int .i64 a, .int .i64 n, .int .i64 s] 28)).alloc (.cells #[.int .i64 v, .int .i64 c] 82)).alloc (.cells #[.int .i64 0, .int .i64 0, .int .i64 0] 41)) := (VBox.new.below (below_new (Below.refl _ _) _)).below (below_new (Below.refl _ _) _)
   have B2 : VBox w 3 aye l a n s (((w.alloc (.cells #[.int .i64 3, .bool aye, .int .i64 l, .int .i64 a, .int .i64 n, .int .i64 s] 28)).alloc (.cells #[.int .i64 v, .int .i64 c] 82)).alloc (.cells #[.int .i64 (votesI a 0), .int .i64 (votesI n 0), .int .i64 (a + s)] 41)) := (VBox.new.below (below_new (Below.refl _ _) _)).below (below_new (Below.refl _ _) _)
   go_region_held3 (fun w' => w'.cell? ⟨w.heap.size, 0, none⟩ = some (.int .i64 3) ∧ w'.cell? ⟨w.heap.size, 1, none⟩ = some (.bool aye) ∧ w'.cell? ⟨w.heap.size, 2, none⟩ = some (.int .i64 l) ∧ w'.cell? ⟨w.heap.size, 3, none⟩ = some (.int .i64 a) ∧ w'.cell? ⟨w.heap.size, 4, none⟩ = some (.int .i64 n) ∧ w'.cell? ⟨w.heap.size, 5, none⟩ = some (.int .i64 s)) (first | exact B1.all | exact B2.all | fail) (first | (go_at_call 44; refine (ref_Votes _ _ _ (by omega) (by omega) (by omega) (by omega)).mono ?_; rintro e w' ⟨rfl, rfl⟩) | fail)
   go_wp2
   exact bodyPost_ret (v := tally (gainA 3 aye l a v) (gainN 3 aye l a n v) (gainS 3 aye a s c)) (by simp [results, Tryz.results46, go_sem, gainA, gainN, gainS]) rfl ⟨rfl, (by repeat (first | exact Below.refl _ _ | refine below_dn ?_ _ | refine Below.drew ?_ | refine below_new ?_ _ | refine Below.setCell ?_ (Nat.le_refl _) _ | refine Below.setCell ?_ (Nat.le_succ _) _ | refine Below.setCell ?_ (Nat.le_trans (Nat.le_succ _) (Nat.le_succ _)) _))⟩
end
section
open Go.RowKit Go.Maps Go.Shelf
attribute [local go_sem] Oper.semAt_some
theorem castInfo : (Tryz.prog.info? 56).map (fun i => (i.zero, i.size, i.bytes)) = some (some (.agg #[.int .i64 0, .int .i64 0, .bool false, .int .i64 0, .int .i64 0, .int .i64 0, .int .i64 0]), 7, 56) := by kernel_rfl
def castR : RowTy Tryz.prog (Int × Bal) where
 T := 56
 S := 51
 k := 7
 f := prOf_V
 len := fun _ => rfl
 one := fun x u hu => by
  simp only [prOf_V, List.mem_cons, List.not_mem_nil, or_false] at hu
  rcases hu with rfl | rfl | rfl | rfl | rfl | rfl | rfl <;> rfl
 pos := by decide
 small := by decide
 slice := Tryz.underlying51
 info := by
  obtain ⟨i0, hi, hz⟩ := Option.map_eq_some_iff.1 castInfo
  simp only [Prod.mk.injEq] at hz
  obtain ⟨h1, h2, h3⟩ := hz
  exact ⟨i0, _, _, hi, h1, h2, rfl, h3, by decide⟩
 row := ⟨_, Tryz.underlying56, rfl⟩
theorem law11_casts (p : Option Addr) (who tk : Int) (xs : List (Int × Bal)) (w : World) (hcall : ∀ w', Below w.heap.size w w' → Calls Tryz.prog 48 #[.pointer p, .int .i64 who, .int .i64 tk] w' fun e w'' => ∃ gf lbx, e = .returned (.func (.func gf) #[] lbx) ∧ (∀ args w, (callFunc gf args).run Tryz.prog w = .ok (.enter gf args) w) ∧ Iter Tryz.prog 0 gf lbx encs_V xs (fun k => k < w''.heap.size) w'' ∧ Below w'.heap.size w' w'') (hlen : xs.length ≤ 100) :
 Calls Tryz.prog 14 #[.pointer p, .int .i64 who, .int .i64 tk] w fun e w' => ∃ v, e = .returned (.tuple #[v, .bool true]) ∧ OwnR castR w.heap.size v xs w' ∧ Below w.heap.size w w' := by
 refine (callsIn_wide (n := 2)).1 ?_
 have q1 : ∀ g lb w, (binOp .eql 90 (.func g #[] lb) .nilFunc).run Tryz.prog w = .ok (.bool false) w := fun g lb w => by kernel_rfl
 refine callsIn_of_wp_marks Tryz.func14 rfl trivial ?_ rfl
 simp only [Tryz.ntmps14, List.size_toArray, List.length_cons, List.length_nil, Nat.reduceAdd, Nat.reduceSub, Array.replicate_succ, Array.replicate_zero, List.push_toArray, List.append_toArray, List.nil_append, List.cons_append]
 have hb2 : Below w.heap.size w ((w.alloc (.cells #[.slice none 0 0] 51)).alloc (.cells #[.bool false] 4)) := ((Below.refl _ w).alloc (Nat.le_refl _) _).alloc (by simp) _
 have hc := hcall _ hb2
 have HC := Lib.hid (And.intro hc hb2)
 have HLN := Lib.hid hlen
 clear hcall hlen hc hb2
 gi_wp2_with (first
  | (gi_at_call 48; refine (callsIn_wide.2 HC.out.1).mono ?_; rintro e wa ⟨gf, lbx, rfl, eg, hit, hba⟩; have HIT := Lib.hid (And.intro hit (And.intro eg hba)); clear hit eg hba)
  | (refine ⟨trivial, ?_⟩; gi_at_call 48; refine (callsIn_wide.2 HC.out.1).mono ?_; rintro e wa ⟨gf, lbx, rfl, eg, hit, hba⟩; have HIT := Lib.hid (And.intro hit (And.intro eg hba)); clear hit eg hba)
  | fail)
 obtain ⟨s, hs⟩ : ∃ s, s = w.heap.size := ⟨_, rfl⟩
 obtain ⟨rb, hrb⟩ : ∃ rb, rb = s + 1 := ⟨_, rfl⟩
 obtain ⟨ob, hob⟩ : ∃ ob, ob = wa.heap.size := ⟨_, rfl⟩
 obtain ⟨w1, hw1⟩ : ∃ w1, w1 = wa.alloc (.cells #[.slice none 0 0] 51) := ⟨_, rfl⟩
 rw [← hw1]
 have hBa : Below w.heap.size w wa := HC.out.2.trans (HIT.out.2.2.mono HC.out.2.size)
 have hsza : s + 2 ≤ wa.heap.size := by have := HIT.out.2.2.size; rw [World.size_alloc, World.size_alloc] at this; omega
 have hB1a : Below wa.heap.size wa w1 := by rw [hw1]; exact (Below.refl _ _).alloc (Nat.le_refl _) _
 have hB : Below w.heap.size w w1 := hBa.trans (hB1a.mono hBa.size)
 have hsz : w1.heap.size = ob + 1 := by rw [hw1, hob]; simp
 have hx0 : Boxed ((w.alloc (.cells #[.slice none 0 0] 51)).alloc (.cells #[.bool false] 4)) s 51 (.slice none 0 0) := by rw [hs]; exact (Boxed.new w _ _).alloc _
 have hx1 : Boxed ((w.alloc (.cells #[.slice none 0 0] 51)).alloc (.cells #[.bool false] 4)) rb 4 (.bool false) := by
  have := Boxed.new (w.alloc (.cells #[.slice none 0 0] 51)) 4 (.bool false)
  rw [World.size_alloc] at this
  rw [hrb, hs]; exact this
 have x0 : Boxed w1 s 51 (.slice none 0 0) := (hB1a.block s (by omega)).trans ((HIT.out.2.2.block s hx0.lt).trans hx0)
 have x1 : Boxed w1 rb 4 (.bool false) := (hB1a.block rb (by omega)).trans ((HIT.out.2.2.block rb hx1.lt).trans hx1)
 have x2 : Boxed w1 ob 51 (.slice none 0 0) := by rw [hw1, hob]; exact Boxed.new wa _ _
 rw [← hs, ← hrb, ← hob]
 have l0 : s < rb := by omega
 have l1 : rb < ob := by omega
 have l2 : ob < w1.heap.size := by omega
 have HB1 := Lib.hid (And.intro hB hB1a)
 have HS := Lib.hid (And.intro hs (And.intro hsz hob))
 have HR := Lib.hid (And.intro x0 x1)
 clear hw1 hs hrb hB hB1a hBa hsz hsza hx0 hx1 x0 x1 hob
 refine range_outerAU (n := 0) (gf := gf) (lb := lbx) rfl HIT.out.2.1 HIT.out.1 (Grow.of_below HB1.out.2) (fun k hk => ⟨hk, HB1.out.2.block k hk⟩) (fun _ => rfl)
  (fun k => k = ob) (by rintro k rfl; exact ⟨l2, fun h => by have := HS.out.2.2; omega⟩) (ColI castR w1.heap.size ob) (fun _ _ _ _ => False) (ColI.stab l2) (fun c _ _ _ h => h.elim)
  ⟨_, x2, OwnR.nil _ _, fun k => ⟨fun h => h.elim, fun h => by cases h⟩, Nat.le_refl _⟩
  (fun x N T => (((T.setIfInBounds 19 (.int .i64 x.1)).setIfInBounds 20 (balVal x)).setIfInBounds 10 (.int .i64 x.1)).setIfInBounds 11 (.pointer (some ⟨N, 0, none⟩)))
  (fun x N W => W.heap[N]? = some (.cells #[.int .i64 x.2.k, .bool x.2.aye, .int .i64 x.2.l, .int .i64 x.2.a, .int .i64 x.2.n, .int .i64 x.2.s] 28 (0, 0))) (fun x N W W' h e => e.trans h) ?assign ?body ?done ?stop
 case assign =>
  intro l x W K hK
  simp only [encs_V]
  gi_wp2
  exact hK _ ((Below.refl _ W).alloc (Nat.le_refl _) _) (by simp) (World.alloc_heap_new _ _)
 case body =>
  rintro l pre x Φ N W hpx ⟨v1, hI⟩ hl1 hΦ - hlN hNW hAt
  have hpl := hpx.length_le
  rw [List.length_append, List.length_singleton] at hpl
  have hpl2 : pre.length ≤ 99 := by have := HLN.out; omega
  obtain ⟨ao1, cap1, rfl⟩ := hI.own.lenOf
  obtain ⟨pl, hm⟩ : ∃ pl, pl = pre.length := ⟨_, rfl⟩
  rw [← hm] at hI
  have c0 := hI.bx.cell
  have hlW : ob < W.heap.size := by have := hI.sz; omega
  have hsW : w1.heap.size ≤ W.heap.size := hI.sz
  have cN0 : W.cell? ⟨N, 0, none⟩ = some (.int .i64 x.2.k) := by rw [World.cell?, hAt]; rfl
  have cN1 : W.cell? ⟨N, 1, none⟩ = some (.bool x.2.aye) := by rw [World.cell?, hAt]; rfl
  have cN2 : W.cell? ⟨N, 2, none⟩ = some (.int .i64 x.2.l) := by rw [World.cell?, hAt]; rfl
  have cN3 : W.cell? ⟨N, 3, none⟩ = some (.int .i64 x.2.a) := by rw [World.cell?, hAt]; rfl
  have cN4 : W.cell? ⟨N, 4, none⟩ = some (.int .i64 x.2.n) := by rw [World.cell?, hAt]; rfl
  have cN5 : W.cell? ⟨N, 5, none⟩ = some (.int .i64 x.2.s) := by rw [World.cell?, hAt]; rfl
  have HI := Lib.hid hI
  have HPH := Lib.hid hΦ
  have HPL := Lib.hid hpl2
  clear hI hΦ hm hpl hpl2 hAt
  gi_wp2_with (first
   | (refine wplIn_appR (r := castR) (y := x) rfl rfl rfl rfl ((OwnR.of HI.out.own (Nat.le_refl _) (fun k hk => Below.heap_alloc _ _ _ (HI.out.own.block hk).2))) (rangeAt_whole (T := 56) (by exact World.alloc_heap_new _ _)) (by have := HPL.out; omega) (by have h := hsW; rw [World.size_alloc]; omega) ?_; intro v' w3 hO hg3 hat3 hne; have cB : w3.cell? ⟨ob, 0, none⟩ = some (.slice ao1 pl cap1) := (World.cell?_of_block (a := ⟨ob, 0, none⟩) ((hg3.block ob (by rw [World.size_alloc]; omega) (fun e => by have := (HI.out.own.block e.symm).1; omega)).trans (Below.heap_alloc _ _ _ hlW))).trans c0; have fB : w3.frozen? ⟨ob, 0, none⟩ = false := ((HI.out.bx.alloc _).kept hg3 (fun e => by have := (HI.out.own.block e.symm).1; omega)).frozen; obtain ⟨ao2, m2, cap2, hm2, rfl⟩ : ∃ ao m cap, m = pre.length + 1 ∧ v' = .slice ao m cap := by { obtain ⟨a, c, e⟩ := hO.lenOf; exact ⟨a, _, c, by simp, e⟩ }; have hm3 : (m2 : Int) ≤ 100 := by { have := HPL.out; omega }; have hcmp : decide ((100 : Int) < (m2 : Int)) = false := decide_eq_false (by omega); have HO := Lib.hid hO; have HG3 := Lib.hid hg3; have HAT := Lib.hid hat3; clear hO hg3 hat3 hm2 hne)
   | fail)
  exact ColC.step HI.out l2 rfl ((Below.refl _ W).alloc (Nat.le_refl _) _) HO.out HG3.out HAT.out
 case done =>
  rintro D Φ W3 ⟨v3, hC⟩ hon hD hnD hK
  obtain ⟨x0, x1⟩ := HR.out
  have hkeep : ∀ k, k < ob → W3.heap[k]? = w1.heap[k]? := fun k hk => hon.block k (by omega) (by omega) (fun h => h)
  have y0 : Boxed W3 s 51 (.slice none 0 0) := (hkeep s (by omega)).trans x0
  have y1 : Boxed W3 rb 4 (.bool false) := (hkeep rb (by omega)).trans x1
  obtain ⟨ao1, cp1, rfl⟩ := hC.own.lenOf
  obtain ⟨m1, hm1⟩ : ∃ m, m = xs.length := ⟨_, rfl⟩
  rw [← hm1] at hC
  have c0 := hC.bx.cell
  have c2 := y0.cell
  have c4 := y1.cell
  have f2 := y0.frozen
  have f4 := y1.frozen
  have hiff := hC.iff
  have hpost : ∀ W5, W5 = (W3.setCell ⟨s, 0, none⟩ (.slice ao1 m1 cp1)).setCell ⟨rb, 0, none⟩ (.bool true) →
   W5.heap[D]? = some (.deferred (some [])) ∧ OwnR castR w.heap.size (.slice ao1 m1 cp1) xs (W5.putObj D (.deferred none)) ∧ Below w.heap.size w (W5.putObj D (.deferred none)) ∧
   (W5.putObj D (.deferred none)).cell? ⟨s, 0, none⟩ = some (.slice ao1 m1 cp1) ∧ (W5.putObj D (.deferred none)).cell? ⟨rb, 0, none⟩ = some (.bool true) := by
   intro W5 hW5
   obtain ⟨hs, hsz, hob⟩ := HS.out
   have hDl : D < W3.heap.size := (Array.getElem?_eq_some_iff.1 hK).1
   have hb : ∀ k, ob ≤ k → W5.heap[k]? = W3.heap[k]? := fun k hk => by
    rw [hW5, Below.heap_setCell _ _ _ k (by show k ≠ rb; omega), Below.heap_setCell _ _ _ k (by show k ≠ s; omega)]
   have b0 : Boxed W5 s 51 (.slice ao1 m1 cp1) := by
    rw [hW5]
    exact (Below.heap_setCell _ _ _ s (by show s ≠ rb; omega)).trans (y0.set _)
   have b2 : Boxed W5 rb 4 (.bool true) := by
    rw [hW5]
    have : Boxed (W3.setCell ⟨s, 0, none⟩ (.slice ao1 m1 cp1)) rb 4 (.bool false) := (Below.heap_setCell _ _ _ rb (by show rb ≠ s; omega)).trans y1
    exact this.set _
   have hput : ∀ k, k ≠ D → (W5.putObj D (.deferred none)).heap[k]? = W5.heap[k]? := fun k hk => put_other hk
   have hO2 := hon
   have hw2 := HB1.out.1
   refine ⟨(hb D (by omega)).trans hK, hC.own.of (by omega) (fun k hk => ?_), ⟨?_, ?_, ?_, ?_, fun k hk => ?_⟩, ((Boxed.cell (show Boxed (W5.putObj D (.deferred none)) s _ _ from (hput s (by omega)).trans b0))), ((Boxed.cell (show Boxed (W5.putObj D (.deferred none)) rb _ _ from (hput rb (by omega)).trans b2)))⟩
   · rw [hput k (fun e => hnD ((hiff D).2 (by rw [← e]; exact hk)))]; exact hb k (by have := (hC.own.block hk).1; omega)
   · rw [hW5]; exact hO2.grow.os.trans hw2.os
   · rw [hW5]; exact hO2.grow.tape.trans hw2.tape
   · rw [hW5]; exact hO2.grow.output.trans hw2.output
   · have h1 := hO2.grow.size; have h2 := hw2.size; rw [hW5]; simp [World.putObj, World.setCell]; omega
   · rw [hput k (by omega), hW5, Below.heap_setCell _ _ _ k (by show k ≠ rb; omega), Below.heap_setCell _ _ _ k (by show k ≠ s; omega), hO2.block k (by omega) (by omega) (fun h => h)]
     exact hw2.block k (by omega)
  have HP := Lib.hid hpost
  clear hpost hC hon hK hkeep y0 y1 x0 x1 hm1
  gi_wp2
  obtain ⟨W5, hW5⟩ : ∃ W5, W5 = (W3.setCell ⟨s, 0, none⟩ (.slice ao1 m1 cp1)).setCell ⟨rb, 0, none⟩ (.bool true) := ⟨_, rfl⟩
  rw [← hW5]
  obtain ⟨p1, p2, p4, p5, p7⟩ := HP.out W5 hW5
  refine ⟨by simp, .inl ⟨_, _, rfl, run_takeDeferred p1, ?_⟩⟩
  obtain ⟨W6, hW6⟩ : ∃ W6, W6 = W5.putObj D (.deferred none) := ⟨_, rfl⟩
  rw [← hW6] at p2 p4 p5 p7 ⊢
  clear hW6 hW5
  exact ⟨.tuple #[.slice ao1 m1 cp1, .bool true], by simp [results, Tryz.results14, go_sem, p5, p7], _, rfl, p2, p4⟩
 case stop =>
  rintro D Φ c pre W3 hpre h
  exact h.elim
end
section
open Go.ChangeShapes Go.WideShapes Go.ChangeAt Go.RowKit Go.Deep
section
variable {H : Type} {enc : TypeId × Value → H} {P : Program} {w : World} {base : Nat} {held : Bool}
theorem cells_slice' {v : Value} {r : Reach} {b0 : Nat} {t e : TypeId} (ht : P.underlying t = some (.slice e)) (hv : Value.okWide P w r b0 t v) : v.cells.toList = [v] := by
 unfold Value.okWide at hv
 rw [ht] at hv
 simp only [Cell.okWide, Cell.ok, ht] at hv
 cases v <;> simp [Value.cells] at hv ⊢
theorem open_flats {t e : TypeId} {ls : List Leaf} {v : Value} {d : DataW H} {p : List MemPlace} {r : Reach} {b0 : Nat} (n : Nat) (ht : P.underlying t = some (.slice e)) (hl : leaves P n e = some ls) (hc : P.cellsOf e = ls.length)
 (hv : Value.okWide P w r b0 t v) (h : DataW.Trod enc P w base (fun _ => true) held t v d p) :
 v = .slice none 0 0 ∨ ∃ (a : Addr) (len cap : Nat) (C : Nat → List Value), v = .slice (some a) len cap ∧ len ≤ cap ∧ cap ≤ maxLen ∧ ∀ i, i < cap → Fits ls (C i) ∧ ∀ j, j < ls.length → w.cell? (a.add (i * ls.length + j)) = (C i)[j]? := by
 obtain ⟨fuel, hf⟩ := h
 rw [cells_slice' ht hv] at hf
 rcases open_slice ht hf with ⟨h0, -⟩ | ⟨a, len, cap, m, k, D, Pl, hcs, hb, hle, hm, hmm, -, hx⟩
 · exact .inl (by simpa using h0)
 · simp only [if_true] at hmm
   subst hmm
   right
   rw [hc] at hx
   obtain ⟨C, hC⟩ := choose_lt (α := List Value) (p := fun i cs => Fits ls cs ∧ ∀ j, j < ls.length → w.cell? (a.add (i * ls.length + j)) = cs[j]?) (fun i hi => by
    obtain ⟨cs', h1, h2⟩ := hx i hi
    obtain ⟨_, hlen, hcell⟩ := World.cells?_some h1
    refine ⟨cs', flat_fits n e ls hl k _ _ h2, fun j hj => ?_⟩
    have := hcell j (by omega)
    rwa [add_add] at this)
   exact ⟨a, len, m, C, by simpa using hcs, hle, hm, hC⟩
end
end
section
open Go.RowKit
structure Mem where
 is : FP → World → Prop
 keep : ∀ {F w w'}, is F w → Grow w w' → (∀ k, F k → w'.heap[k]? = w.heap[k]?) → is F w'
 lt : ∀ {F w k}, is F w → F k → k < w.heap.size
def Mem.to (m : Mem) (F : FP) (w w' : World) : Prop := ∃ F', m.is F' w' ∧ (∀ k, F' k → F k ∨ w.heap.size ≤ k) ∧ Only F (fun _ => False) w w'
section
variable {m n m' n' : Mem} {F G : FP} {w w' w1 : World}
theorem Mem.below (h : m.is F w) (hb : Below w.heap.size w w') : m.is F w' := m.keep h (Grow.of_below hb) (fun k hk => hb.block k (m.lt h hk))
theorem Mem.to_below (h : m.is F w) (hb : Below w.heap.size w w') : m.to F w w' := ⟨F, m.below h hb, fun k hk => .inl hk, Only.of_later hb⟩
theorem Mem.only_trans {Ψ Ψ' : FP} {A B C : World} (h : Only Ψ (fun _ => False) A B) (k : Only Ψ' (fun _ => False) B C) (hΨ : ∀ j, Ψ' j → Ψ j ∨ A.heap.size ≤ j) : Only Ψ (fun _ => False) A C :=
 ⟨h.grow.trans k.grow, fun j hj h1 h2 => (k.block j (Nat.lt_of_lt_of_le hj h.grow.size) (fun q => (hΨ j q).elim h1 (fun e => by omega)) h2).trans (h.block j hj h1 h2)⟩
theorem Mem.to_then (h : ∃ F', m.is F' w1 ∧ (∀ k, F' k → F k ∨ w.heap.size ≤ k) ∧ Only F (fun _ => False) w w1 ∧ m'.to F' w1 w') : m'.to F w w' := by
 obtain ⟨F1, h1, h2, h3, F2, k1, k2, k3⟩ := h
 refine ⟨F2, k1, fun k hk => ?_, Mem.only_trans h3 k3 h2⟩
 rcases k2 k hk with e | e
 · exact h2 k e
 · exact .inr (Nat.le_trans h3.grow.size e)
theorem Mem.to_then_below (h : m.to F w w1) (hb : Below w1.heap.size w1 w') : m.to F w w' := by
 obtain ⟨F1, h1, h2, h3⟩ := h
 exact ⟨F1, m.below h1 hb, h2, Mem.only_trans h3 (Ψ' := fun _ => False) (Only.of_later hb) (fun _ q => q.elim)⟩
theorem Mem.to_later (hb : Below w.heap.size w w1) (h : m.to F w1 w') : m.to F w w' := by
 obtain ⟨F1, h1, h2, h3⟩ := h
 refine ⟨F1, h1, fun k hk => (h2 k hk).imp id (fun e => Nat.le_trans hb.size e), ⟨(Grow.of_below hb).trans h3.grow, fun j hj k1 k2 => (h3.block j (Nat.lt_of_lt_of_le hj hb.size) k1 k2).trans (hb.block j hj)⟩⟩
def Mem.star (m n : Mem) : Mem where
 is F w := ∃ A B : FP, m.is A w ∧ n.is B w ∧ (∀ k, A k → ¬ B k) ∧ ∀ k, F k ↔ A k ∨ B k
 keep := by
  rintro F w w' ⟨A, B, h1, h2, h3, h4⟩ hg hk
  exact ⟨A, B, m.keep h1 hg (fun k q => hk k ((h4 k).2 (.inl q))), n.keep h2 hg (fun k q => hk k ((h4 k).2 (.inr q))), h3, h4⟩
 lt := by
  rintro F w k ⟨A, B, h1, h2, h3, h4⟩ hk
  exact ((h4 k).1 hk).elim (m.lt h1) (n.lt h2)
theorem Mem.l (h : (m.star n).is F w) : ∃ A, m.is A w ∧ (∀ k, A k → F k) ∧ ∀ m' w', Mem.to m' A w w' → Mem.to (m'.star n) F w w' := by
 obtain ⟨A, B, h1, h2, h3, h4⟩ := h
 refine ⟨A, h1, fun k q => (h4 k).2 (.inl q), fun m' w' ht => ?_⟩
 obtain ⟨A', k1, k2, k3⟩ := ht
 refine ⟨fun k => A' k ∨ B k, ⟨A', B, k1, n.keep h2 k3.grow (fun k q => k3.block k (n.lt h2 q) (fun p => h3 k p q) (fun p => p)), fun k q p => ?_, fun k => Iff.rfl⟩, fun k q => ?_, k3.grow, fun j hj p1 p2 => k3.block j hj (fun p => p1 ((h4 j).2 (.inl p))) p2⟩
 · rcases k2 k q with e | e
   · exact h3 k e p
   · have := n.lt h2 p; omega
 · rcases q with q | q
   · exact (k2 k q).imp (fun e => (h4 k).2 (.inl e)) id
   · exact .inl ((h4 k).2 (.inr q))
theorem Mem.comm (h : (m.star n).is F w) : (n.star m).is F w := by
 obtain ⟨A, B, h1, h2, h3, h4⟩ := h
 exact ⟨B, A, h2, h1, fun k p q => h3 k q p, fun k => (h4 k).trans Or.comm⟩
theorem Mem.to_comm (h : (m.star n).to F w w') : (n.star m).to F w w' := by
 obtain ⟨A, h1, h2, h3⟩ := h
 exact ⟨A, Mem.comm h1, h2, h3⟩
theorem Mem.r (h : (m.star n).is F w) : ∃ B, n.is B w ∧ (∀ k, B k → F k) ∧ ∀ n' w', Mem.to n' B w w' → Mem.to (m.star n') F w w' := by
 obtain ⟨B, h1, h2, h3⟩ := Mem.l (Mem.comm h)
 exact ⟨B, h1, h2, fun n' w' ht => Mem.to_comm (h3 n' w' ht)⟩
theorem Mem.join {A B : FP} (h1 : m.is A w) (h2 : n.is B w) (h3 : ∀ k, A k → ¬ B k) : (m.star n).is (fun k => A k ∨ B k) w := ⟨A, B, h1, h2, h3, fun k => Iff.rfl⟩
theorem Mem.join_new {A B : FP} (h1 : m.is A w) (hb : Below w.heap.size w w') (h2 : n.is B w') (hB : ∀ k, B k → w.heap.size ≤ k) : (m.star n).is (fun k => A k ∨ B k) w' :=
 Mem.join (m.below h1 hb) h2 (fun k p q => by have := m.lt h1 p; have := hB k q; omega)
def Mem.one (b : Nat) (o : Obj) : Mem where
 is F w := (∀ k, F k ↔ k = b) ∧ w.heap[b]? = some o
 keep := by
  rintro F w w' ⟨h1, h2⟩ hg hk
  exact ⟨h1, (hk b ((h1 b).2 rfl)).trans h2⟩
 lt := by
  rintro F w k ⟨h1, h2⟩ hk
  rw [(h1 k).1 hk]
  exact (Array.getElem?_eq_some_iff.1 h2).1
theorem Mem.one_new (w : World) (o : Obj) : (Mem.one w.heap.size o).is (fun k => k = w.heap.size) (w.alloc o) := ⟨fun k => Iff.rfl, World.alloc_heap_new _ _⟩
theorem Mem.to_low {N : Nat} (h : m.to F w w') (hN : N ≤ w.heap.size) (hF : ∀ k, F k → N ≤ k) : Below N w w' := by
 obtain ⟨A, h1, h2, h3⟩ := h
 exact h3.below hN hF (fun k q => q.elim)
theorem Mem.to_keeps (h : m.to F w w') {k : Nat} (hk : k < w.heap.size) (hF : ¬ F k) : w'.heap[k]? = w.heap[k]? := by
 obtain ⟨A, h1, h2, h3⟩ := h
 exact h3.block k hk hF (fun q => q)
end
end
section
open Go.RowKit
theorem ref_Gain1W (aye : Bool) (l a n s v c : Int) (w : World) (ha : 0 ≤ a ∧ a ≤ 1073741824) (hl : 0 ≤ l ∧ l ≤ 6) :
 Calls Tryz.prog 46 #[vote 1 aye l a n s, weight v c] w fun e w' => e = .returned (tlV (gainW ⟨1, aye, l, a, n, s⟩ ⟨v, c⟩)) ∧ Below w.heap.size w w' := by
 obtain ⟨q0, q1⟩ := votes_bd ha.1 hl.1
 obtain ⟨m0, m1⟩ := mul_bd ha.1 ha.2 (show 0 ≤ l + 1 by omega) (show l + 1 ≤ 7 by omega) (by omega)
 obtain ⟨a0, a1⟩ := ha
 obtain ⟨l0, l1⟩ := hl
 cases aye
 · go_enter Tryz.func46, Tryz.ntmps46
   go_wp2_with fail
   go_quiet ((go_at_call 44; exact Calls.quiet_of_same ((ref_Votes _ _ _ (by omega) (by omega) (by omega) (by omega)).mono fun e w' h => ⟨h.1, h.2.symm⟩)))
   go_wp2
   exact bodyPost_ret (v := tlV (gainW ⟨1, false, l, a, n, s⟩ ⟨v, c⟩)) (by simp [results, Tryz.results46, go_sem, gainW]) rfl ⟨rfl, (by repeat (first | exact Below.refl _ _ | refine below_dn ?_ _ | refine Below.drew ?_ | refine below_new ?_ _ | refine Below.setCell ?_ (Nat.le_refl _) _ | refine Below.setCell ?_ (Nat.le_succ _) _ | refine Below.setCell ?_ (Nat.le_trans (Nat.le_succ _) (Nat.le_succ _)) _))⟩
 · go_enter Tryz.func46, Tryz.ntmps46
   go_wp2_with fail
   go_quiet ((go_at_call 44; exact Calls.quiet_of_same ((ref_Votes _ _ _ (by omega) (by omega) (by omega) (by omega)).mono fun e w' h => ⟨h.1, h.2.symm⟩)))
   go_wp2
   exact bodyPost_ret (v := tlV (gainW ⟨1, true, l, a, n, s⟩ ⟨v, c⟩)) (by simp [results, Tryz.results46, go_sem, gainW]) rfl ⟨rfl, (by repeat (first | exact Below.refl _ _ | refine below_dn ?_ _ | refine Below.drew ?_ | refine below_new ?_ _ | refine Below.setCell ?_ (Nat.le_refl _) _ | refine Below.setCell ?_ (Nat.le_succ _) _ | refine Below.setCell ?_ (Nat.le_trans (Nat.le_succ _) (Nat.le_succ _)) _))⟩
theorem ref_GainW (x : Bal) (g : Wgt) (w : World) (h : balOk x = true) :
 Calls Tryz.prog 46 #[balS.v x, wgtS.v g] w fun e w' => e = .returned (tlyS.v (gainW x g)) ∧ Below w.heap.size w w' := by
 obtain ⟨k, aye, l, a, n, s⟩ := x
 obtain ⟨v, c⟩ := g
 simp only [balOk, voteB, Bool.and_eq_true] at h
 obtain ⟨⟨⟨⟨h0, h1⟩, h2⟩, h3⟩, -⟩ := h
 obtain ⟨a0, a1⟩ := withinB_out h1
 obtain ⟨n0, n1⟩ := withinB_out h2
 obtain ⟨s0, s1⟩ := withinB_out h3
 by_cases k1 : k = 1
 · subst k1
   simp only [shapedB, if_true, Bool.and_eq_true] at h0
   exact ref_Gain1W aye l a n s v c w ⟨a0, a1⟩ (withinB_out h0.1.1)
 · have hk : k = 2 ∨ k = 3 := by
    by_cases k2 : k = 2
    · exact .inl k2
    · by_cases k3 : k = 3
      · exact .inr k3
      · simp [shapedB, k1, k2, k3] at h0
   refine (ref_Gain2 k hk aye l a n s v c w a0 a1 n0 n1 s0 s1).mono fun e w' ⟨he, hb⟩ => ⟨?_, hb⟩
   rw [he]
   simp [gainA, gainN, gainS, gainW, k1, tlyS, StTy.v]
theorem wrap_sub (x y : Int) : wrap64 (x + wrap64 (-y)) = wrap64 (x - y) := by unfold wrap64; omega
theorem ref_AddT (x y : Tl) (w : World) : Calls Tryz.prog 45 #[tlV x, tlV y] w fun e w' => e = .returned (tlV (x.add y)) ∧ Below w.heap.size w w' := by
 obtain ⟨xa, xn, xs⟩ := x
 obtain ⟨ya, yn, ys⟩ := y
 unfold tlV Tl.add
 dsimp only
 go_enter Tryz.func45, Tryz.ntmps45
 go_wp2_with fail
 exact bodyPost_ret (v := .agg #[.int .i64 (wrap64 (xa + ya)), .int .i64 (wrap64 (xn + yn)), .int .i64 (wrap64 (xs + ys))]) (by simp [results, Tryz.results45, go_sem]) rfl ⟨rfl, (by repeat (first | exact Below.refl _ _ | refine below_dn ?_ _ | refine Below.drew ?_ | refine below_new ?_ _ | refine Below.setCell ?_ (Nat.le_refl _) _ | refine Below.setCell ?_ (Nat.le_succ _) _ | refine Below.setCell ?_ (Nat.le_trans (Nat.le_succ _) (Nat.le_succ _)) _))⟩
theorem ref_SubT (x y : Tl) (w : World) : Calls Tryz.prog 92 #[tlV x, tlV y] w fun e w' => e = .returned (tlV (x.sub y)) ∧ Below w.heap.size w w' := by
 obtain ⟨xa, xn, xs⟩ := x
 obtain ⟨ya, yn, ys⟩ := y
 unfold Tl.sub Tl.neg tlV Tl.add
 dsimp only
 rw [wrap_sub, wrap_sub, wrap_sub]
 go_enter Tryz.func92, Tryz.ntmps92
 go_wp2_with fail
 exact bodyPost_ret (v := .agg #[.int .i64 (wrap64 (xa - ya)), .int .i64 (wrap64 (xn - yn)), .int .i64 (wrap64 (xs - ys))]) (by simp [results, Tryz.results92, go_sem]) rfl ⟨rfl, (by repeat (first | exact Below.refl _ _ | refine below_dn ?_ _ | refine Below.drew ?_ | refine below_new ?_ _ | refine Below.setCell ?_ (Nat.le_refl _) _ | refine Below.setCell ?_ (Nat.le_succ _) _ | refine Below.setCell ?_ (Nat.le_trans (Nat.le_succ _) (Nat.le_succ _)) _))⟩
theorem ref_AddW (x y : Tl) (w : World) : Calls Tryz.prog 45 #[.agg (tlyS.f x).toArray, .agg (tlyS.f y).toArray] w fun e w' => e = .returned (.agg (tlyS.f (x.add y)).toArray) ∧ Below w.heap.size w w' := ref_AddT x y w
theorem ref_SubW (x y : Tl) (w : World) : Calls Tryz.prog 92 #[.agg (tlyS.f x).toArray, .agg (tlyS.f y).toArray] w fun e w' => e = .returned (.agg (tlyS.f (x.sub y)).toArray) ∧ Below w.heap.size w w' := ref_SubT x y w
theorem ref_GainV (x : Bal) (g : Wgt) (w : World) (h : balOk x = true) : Calls Tryz.prog 46 #[.agg (balS.f x).toArray, .agg (wgtS.f g).toArray] w fun e w' => e = .returned (.agg (tlyS.f (gainW x g)).toArray) ∧ Below w.heap.size w w' := ref_GainW x g w h
end
section
open Go.RowKit Go.Maps
section
variable {P : Program} {α : Type} {r : RowTy P α} {w w' : World} {v u : Value} {xs ys : List α} {B : Nat}
theorem RdR.take {ao : Option Addr} {n cap : Nat} (h : RdR r w (.slice ao n cap) xs) {k : Nat} (hk : k ≤ xs.length) : RdR r w (sliced ao 0 k cap r.k) (xs.take k) := by
 rcases h with ⟨e, rfl⟩ | ⟨b, off, c, e, hc, hb, hr⟩
 · injection e with e1 e2 e3
   subst e1 e2 e3
   have : k = 0 := by simpa using hk
   subst this
   exact .inl ⟨by simp [sliced], by simp⟩
 · injection e with e1 e2 e3
   subst e1 e3
   have hl : (xs.take k).length = k := by simp; omega
   refine .inr ⟨b, off, cap, by rw [hl]; simp [sliced, Addr.add], by rw [hl]; omega, hb, fun j u hj => hr j u ?_⟩
   rw [← List.take_append_drop k xs, r.all_append, List.getElem?_append_left (List.getElem?_eq_some_iff.1 hj).1]
   exact hj
theorem RdR.drop {ao : Option Addr} {n cap : Nat} (h : RdR r w (.slice ao n cap) xs) {k : Nat} (hk : k ≤ xs.length) : RdR r w (sliced ao k n cap r.k) (xs.drop k) := by
 rcases h with ⟨e, rfl⟩ | ⟨b, off, c, e, hc, hb, hr⟩
 · injection e with e1 e2 e3
   subst e1 e2 e3
   have : k = 0 := by simpa using hk
   subst this
   exact .inl ⟨by simp [sliced], by simp⟩
 · injection e with e1 e2 e3
   subst e1 e2 e3
   have hl : (xs.drop k).length = xs.length - k := by simp
   by_cases hkc : cap = k
   · have hd : xs.drop k = [] := List.drop_of_length_le (by omega)
     rw [hd]
     refine .inr ⟨b, off, 0, ?_, Nat.le_refl _, hb, fun j u hj => by simp [RowTy.all] at hj⟩
     simp only [sliced, if_pos hkc, List.length_nil]
     congr 1 <;> omega
   · refine .inr ⟨b, off + k * r.k, cap - k, by rw [hl]; simp [sliced, hkc, Addr.add], by rw [hl]; omega, hb, fun j u hj => ?_⟩
     have hdl : (r.all (xs.take k)).length = k * r.k := by rw [r.all_len, List.length_take, Nat.min_eq_left hk]
     have := hr (k * r.k + j) u (by
      rw [← List.take_append_drop k xs, r.all_append, List.getElem?_append_right (by rw [hdl]; omega), hdl, Nat.add_sub_cancel_left]
      exact hj)
     rwa [← Nat.add_assoc] at this
theorem OwnR.none {b : Nat} (h : w.heap[b]? = some (.cells #[] r.T (0, 0))) (hB : B ≤ b) : OwnR r B (.slice (some ⟨b, 0, none⟩) 0 0) [] w :=
 ⟨by simp [RowTy.all], .inr ⟨b, 0, #[], rfl, hB, h, Nat.le_refl _, by unfold maxLen; omega, by simp, by simp [RowTy.all]⟩⟩
theorem run_noneR (w : World) : (Instr.buildSlice r.S 0 #[]).run P w = .ok (.slice (some ⟨w.heap.size, 0, none⟩) 0 0) (w.alloc (.cells #[] r.T)) := by
 obtain ⟨i0, z, b, h1, h2, h3, h4, h5, h6⟩ := r.info
 simp [Instr.buildSlice, run_underlying r.slice, sizeOf, typeInfo, h1, newRow, Instr.fill]
 have e : ∀ f : Nat → Value, Array.map f (Array.range 0) = #[] := fun f => Array.eq_empty_of_size_eq_zero (by simp)
 rw [e]
theorem run_appsR (hown : OwnR r B v xs w) (hr : RdR r w u ys) (hlen : xs.length + ys.length ≤ 1000000) (hB : B ≤ w.heap.size) (ty : TypeId) :
 ∃ v' w', (Builtin.append_ #[r.S, r.S] ty #[v, u]).run P w = .ok v' w' ∧ OwnR r B v' (xs ++ ys) w' ∧ w.grownBy w' v.ownBlock ∧ (v'.ownBlock = v.ownBlock ∨ v'.ownBlock = some w.heap.size) := by
 obtain ⟨i0, z, b, h1, h2, h3, h4, h5, h6⟩ := r.info
 rcases hr with ⟨rfl, rfl⟩ | ⟨bb, off, cap, rfl, hc, hb, hcell⟩
 · exact ⟨v, w, run_append_owned_none (P := P) (w := w) B r.S ty r.T i0 r.k r.slice h1 v _ _ hown, by rw [List.append_nil]; exact hown, ⟨rfl, rfl, rfl, Nat.le_refl _, fun _ _ _ => rfl⟩, .inl rfl⟩
 · have hby : (xs.length + ys.length) * b ≤ 140737488355328 := Nat.le_trans (Nat.mul_le_mul hlen h6) (by omega)
   obtain ⟨v', w', e1, e2, e3, e4, e5⟩ := run_append_own_at (P := P) (w := w) B r.S ty r.T i0 (.agg z) r.k b r.slice h1 h2 h3 h5 h4 r.pos v _ _ hown ⟨bb, off, none⟩ ys.length cap (r.all ys) (r.all_len ys)
    (fun j u hj => by rw [Addr.add_mid]; exact hcell j u hj) (r.all_ones ys) (by unfold maxLen; omega) hby hB
   refine ⟨v', w', e1, ?_, e3, e5⟩
   unfold OwnR
   rw [r.all_append, List.length_append]
   exact e2
section
variable {ops : Array Oper} {rest : List Oper} {o : Oper} {a : Act} {Q : Exit → Act → World → Prop}
theorem wpl_appsR {s x : Operand} (hgd : o.guard = none) (ho : o.op = .call { callee := .builtin .append, args := #[s, x], argTypes := #[r.S, r.S] }) (hs : a.eval s = v) (hx : a.eval x = u)
 (hown : OwnR r B v xs w) (hr : RdR r w u ys) (hlen : xs.length + ys.length ≤ 1000000) (hB : B ≤ w.heap.size)
 (h : ∀ v' w', OwnR r B v' (xs ++ ys) w' → w.grownBy w' v.ownBlock → (v'.ownBlock = v.ownBlock ∨ v'.ownBlock = some w.heap.size) → wpList P ops Q rest (a.put o.dst v') w') : wpList P ops Q (o :: rest) a w := by
 obtain ⟨v', w', hrun, h1, h2, h3⟩ := run_appsR hown hr hlen hB o.type
 refine wpList_plain hgd fun K hK => ?_
 unfold Oper.wp
 simp [execOp, ho, resolve, invoke, builtin, hs, hx, hrun, Result.andThen]
 exact hK _ _ (h v' w' h1 h2 h3)
theorem step_appsR {K : Act → World → Prop} {E : Prop} (hg : o.guard = none) (d x : Operand) (hop : o.op = Op.call { callee := Callee.builtin Builtin.append, args := #[d, x], argTypes := #[r.S, r.S] })
 (B : Nat) (v u : Value) (xs ys : List α) (hd : a.eval d = v) (hx : a.eval x = u) (hown : OwnR r B v xs w) (hr : RdR r w u ys) (hlen : xs.length + ys.length ≤ 1000000) (hB : B ≤ w.heap.size)
 (hK : ∀ v' w', OwnR r B v' (xs ++ ys) w' → w.grownBy w' v.ownBlock → (v'.ownBlock = v.ownBlock ∨ v'.ownBlock = some w.heap.size) → K (a.put o.dst v') w') :
 if Region.wanted o (yielded ops a.tmps) = true then Oper.wp P o a w K Q else E := by
 obtain ⟨v', w', hrun, h1, h2, h3⟩ := run_appsR hown hr hlen hB o.type
 have hw : Region.wanted o (yielded ops a.tmps) = true := by simp [Region.wanted, hg]
 rw [if_pos hw]
 unfold Oper.wp
 simp [execOp, hop, resolve, invoke, builtin, hd, hx, hrun, Result.andThen]
 exact hK _ _ h1 h2 h3
theorem wpl_sliceHi {ao : Option Addr} {n cap k : Nat} {x y : Operand} (hgd : o.guard = none) (ho : o.op = .slice r.S x none (some y) none) (hx : a.eval x = .slice ao n cap) (hy : a.eval y = .int .i64 k) (hk : k ≤ cap)
 (h : ∀ u, u = sliced ao 0 k cap r.k → wpList P ops Q rest (a.put o.dst u) w) : wpList P ops Q (o :: rest) a w := by
 obtain ⟨i0, z, b, h1, h2, h3, h4, h5, h6⟩ := r.info
 have hs : P.underlying r.S = some (.slice (P.elem r.S)) := by rw [r.slice]; simp [Program.elem, r.slice]
 have he : P.elem r.S = r.T := by simp [Program.elem, r.slice]
 refine wpList_plain hgd fun K hK => ?_
 unfold Oper.wp
 simp [execOp, ho, hx, hy, run_sliceAt_slice _ _ _ _ _ _ hs, run_slice_h _ _ _ _ _ hs _ _ (Int.natCast_nonneg k) (Int.ofNat_le.2 hk), he, sizeOf, typeInfo, h1, h3, Result.andThen]
 exact hK _ _ (h _ rfl)
theorem wpl_sliceLo {ao : Option Addr} {n cap k : Nat} {x y : Operand} (hgd : o.guard = none) (ho : o.op = .slice r.S x (some y) none none) (hx : a.eval x = .slice ao n cap) {zk : Int} (hy : a.eval y = .int .i64 zk) (hzk : zk = (k : Int)) (hk : k ≤ n)
 (h : ∀ u, u = sliced ao k n cap r.k → wpList P ops Q rest (a.put o.dst u) w) : wpList P ops Q (o :: rest) a w := by
 subst hzk
 obtain ⟨i0, z, b, h1, h2, h3, h4, h5, h6⟩ := r.info
 have hs : P.underlying r.S = some (.slice (P.elem r.S)) := by rw [r.slice]; simp [Program.elem, r.slice]
 have he : P.elem r.S = r.T := by simp [Program.elem, r.slice]
 refine wpList_plain hgd fun K hK => ?_
 unfold Oper.wp
 simp [execOp, ho, hx, hy, run_sliceAt_slice _ _ _ _ _ _ hs, run_slice_l _ _ _ _ _ hs _ _ (Int.natCast_nonneg k) (Int.ofNat_le.2 hk), he, sizeOf, typeInfo, h1, h3, Result.andThen]
 exact hK _ _ (h _ rfl)
theorem wpl_noneR (hgd : o.guard = none) (ho : o.op = .buildSlice r.S 0 #[])
 (h : wpList P ops Q rest (a.put o.dst (.slice (some ⟨w.heap.size, 0, none⟩) 0 0)) (w.alloc (.cells #[] r.T))) : wpList P ops Q (o :: rest) a w := by
 refine wpList_plain hgd fun K hK => ?_
 unfold Oper.wp
 simp [execOp, ho, run_noneR, Result.andThen]
 exact hK _ _ h
end
end
end
section
open Go.RowKit Go.Maps
def lkL (x : Int × Int) : List Value := [.int .i64 x.1, .int .i64 x.2]
theorem lockInfo : (Tryz.prog.info? 154).map (fun i => (i.zero, i.size, i.bytes)) = some (some (.agg #[.int .i64 0, .int .i64 0]), 2, 16) := by kernel_rfl
def lockP : RowTy Tryz.prog (Int × Int) where
 T := 154
 S := 135
 k := 2
 f := lkL
 len := fun _ => rfl
 one := fun x u hu => by
  simp only [lkL, List.mem_cons, List.not_mem_nil, or_false] at hu
  rcases hu with rfl | rfl <;> rfl
 pos := by decide
 small := by decide
 slice := Tryz.underlying135
 info := by
  obtain ⟨i0, hi, hz⟩ := Option.map_eq_some_iff.1 lockInfo
  simp only [Prod.mk.injEq] at hz
  obtain ⟨h1, h2, h3⟩ := hz
  exact ⟨i0, _, _, hi, h1, h2, rfl, h3, by decide⟩
 row := ⟨_, Tryz.underlying154, rfl⟩
def AcRow (A : Acc) (vs : Nat → Value) (C : Array Value) : Prop := C.size = 30 ∧ ∀ k, k < 10 → C[k * 3]? = some (.int .i64 (A k).1) ∧ C[k * 3 + 1]? = some (.int .i64 (A k).2) ∧ C[k * 3 + 2]? = some (vs k)
def RlAt (y ab : Nat) (F : FP) (A : Acc) (M : Cls Int) (w : World) : Prop :=
 ∃ vs C, w.heap[y]? = some (.cells #[.slice (some ⟨ab, 0, none⟩) 10 10] 134 (0, 0)) ∧ w.heap[ab]? = some (.cells C 137 (0, 0)) ∧ AcRow A vs C ∧ (∀ k : Nat, k < 10 → RdR lockP w (vs k) (rowOf M k) ∧ ∀ b, (vs k).ownBlock = some b → F b ∧ b ≠ y ∧ b ≠ ab) ∧ F y ∧ F ab ∧ y ≠ ab ∧ (∀ k, F k → k < w.heap.size) ∧ (∀ x ∈ M, isAcc x.1.1) ∧ SrtC M
def RlTo (y ab : Nat) (F : FP) (A : Acc) (M : Cls Int) (w w' : World) : Prop := ∃ F', RlAt y ab F' A M w' ∧ (∀ k, F' k → F k ∨ w.heap.size ≤ k) ∧ Only F (fun _ => False) w w'
section
variable {y ab : Nat} {F : FP} {A A' : Acc} {M : Cls Int} {w w' : World}
theorem RlAt.lt (h : RlAt y ab F A M w) {k : Nat} (hk : F k) : k < w.heap.size := by
 obtain ⟨vs, C, h1, h2, h3, h4, h5, h6, h7, h8, h9⟩ := h
 exact h8 k hk
theorem RlAt.keys (h : RlAt y ab F A M w) : ∀ x ∈ M, isAcc x.1.1 := by
 obtain ⟨vs, C, h1, h2, h3, h4, h5, h6, h7, h8, h9, h10⟩ := h
 exact h9
theorem RlAt.srt (h : RlAt y ab F A M w) : SrtC M := by
 obtain ⟨vs, C, h1, h2, h3, h4, h5, h6, h7, h8, h9, h10⟩ := h
 exact h10
theorem RlAt.keep (h : RlAt y ab F A M w) (hg : Grow w w') (hk : ∀ k, F k → w'.heap[k]? = w.heap[k]?) : RlAt y ab F A M w' := by
 obtain ⟨vs, C, h1, h2, h3, h4, h5, h6, h7, h8, h9⟩ := h
 exact ⟨vs, C, (hk y h5).trans h1, (hk ab h6).trans h2, h3, fun k hk' => ⟨(h4 k hk').1.keep hg.size (fun b hb => hk b ((h4 k hk').2 b hb).1), (h4 k hk').2⟩, h5, h6, h7, fun k hk' => Nat.lt_of_lt_of_le (h8 k hk') hg.size, h9⟩
theorem RlAt.below (h : RlAt y ab F A M w) (hb : Below w.heap.size w w') : RlAt y ab F A M w' := h.keep (Grow.of_below hb) (fun k hk => hb.block k (h.lt hk))
theorem RlAt.cells (h : RlAt y ab F A M w) {k : Nat} (hk : k < 10) : ∃ v, w.cell? ⟨y, 0, none⟩ = some (.slice (some ⟨ab, 0, none⟩) 10 10) ∧ w.cell? ⟨ab, k * 3, none⟩ = some (.int .i64 (A k).1) ∧ w.cell? ⟨ab, k * 3 + 1, none⟩ = some (.int .i64 (A k).2) ∧ w.cell? ⟨ab, k * 3 + 2, none⟩ = some v ∧ RdR lockP w v (rowOf M k) ∧ ∀ j, w.frozen? ⟨ab, j, none⟩ = false := by
 obtain ⟨vs, C, h1, h2, ⟨-, h3⟩, h4, -⟩ := h
 obtain ⟨c0, c1, c2⟩ := h3 k hk
 exact ⟨vs k, by rw [World.cell?, h1]; rfl, by rw [World.cell?, h2]; exact c0, by rw [World.cell?, h2]; exact c1, by rw [World.cell?, h2]; exact c2, (h4 k hk).1, fun j => by rw [World.frozen?, h2]; rfl⟩
theorem AcRow.set0 {vs : Nat → Value} {C : Array Value} (h : AcRow A vs C) {k : Nat} (hk : k < 10) (x : Int) : AcRow (upd A k (x, (A k).2)) vs (C.setIfInBounds (k * 3) (.int .i64 x)) := by
 obtain ⟨h1, h2⟩ := h
 refine ⟨by simpa using h1, fun j hj => ?_⟩
 obtain ⟨c0, c1, c2⟩ := h2 j hj
 by_cases e : j = k
 · subst e
   rw [Array.getElem?_setIfInBounds_self_of_lt (by omega), Array.getElem?_setIfInBounds_ne (by omega), Array.getElem?_setIfInBounds_ne (by omega)]
   simp [upd, c1, c2]
 · rw [Array.getElem?_setIfInBounds_ne (by omega), Array.getElem?_setIfInBounds_ne (by omega), Array.getElem?_setIfInBounds_ne (by omega)]
   simp [upd, e, c0, c1, c2]
theorem RlAt.putA (h : RlAt y ab F A M w) {j : Nat} {u : Value} (hA : ∀ vs C, AcRow A vs C → AcRow A' vs (C.setIfInBounds j u)) : RlAt y ab F A' M (w.setCell ⟨ab, j, none⟩ u) := by
 obtain ⟨vs, C, h1, h2, h3, h4, h5, h6, h7, h8, h9⟩ := h
 have ho : ∀ k, k ≠ ab → (w.setCell ⟨ab, j, none⟩ u).heap[k]? = w.heap[k]? := fun k hk => Below.heap_setCell _ _ _ k hk
 have hs : (w.setCell ⟨ab, j, none⟩ u).heap.size = w.heap.size := by simp [World.setCell]
 refine ⟨vs, C.setIfInBounds j u, (ho y h7).trans h1, ?_, hA vs C h3, fun k hk => ⟨(h4 k hk).1.keep (by omega) (fun b hb => ho b ((h4 k hk).2 b hb).2.2), (h4 k hk).2⟩, h5, h6, h7, fun k hk => by rw [hs]; exact h8 k hk, h9⟩
 simp [World.setCell, Array.getElem?_modify, h2]
theorem RlAt.free (h : RlAt y ab F A M w) {k : Nat} (hk : k < 10) (x : Int) : RlAt y ab F (upd A k (x, (A k).2)) M (w.setCell ⟨ab, k * 3, none⟩ (.int .i64 x)) := h.putA (fun vs C hc => hc.set0 hk x)
theorem RlTo.of_below (h : RlAt y ab F A M w) (hb : Below w.heap.size w w') : RlTo y ab F A M w w' := ⟨F, h.below hb, fun k hk => .inl hk, Only.of_later hb⟩
theorem RlTo.refl (h : RlAt y ab F A M w) : RlTo y ab F A M w w := RlTo.of_below h (Below.refl _ _)
end
theorem ref6_Is (a : Int) (w : World) : Calls Tryz.prog 88 #[.int .i64 a] w fun e w' => e = .returned (.bool (decide (0 ≤ a ∧ a < 10))) ∧ w' = w := by
 by_cases h0 : 0 ≤ a
 · by_cases h1 : a < 10
   · rw [decide_eq_true (show 0 ≤ a ∧ a < 10 from ⟨h0, h1⟩)]
     have g : a ≥ 0 := h0
     go_enter Tryz.func88, Tryz.ntmps88
     go_wp2
     go_ret
     exact ⟨rfl, rfl⟩
   · rw [decide_eq_false (show ¬ (0 ≤ a ∧ a < 10) by omega)]
     have g : a ≥ 0 := h0
     go_enter Tryz.func88, Tryz.ntmps88
     go_wp2
     go_ret
     exact ⟨rfl, rfl⟩
 · rw [decide_eq_false (show ¬ (0 ≤ a ∧ a < 10) by omega)]
   have g : ¬ a ≥ 0 := h0
   go_enter Tryz.func88, Tryz.ntmps88
   go_wp2
   go_ret
   exact ⟨rfl, rfl⟩
section
variable {y ab : Nat} {F : FP} {A : Acc} {M : Cls Int} {w : World}
theorem ref6_Free (h : RlAt y ab F A M w) (a : Int) : Calls Tryz.prog 40 #[.pointer (some ⟨y, 0, none⟩), .int .i64 a] w fun e w' => e = .returned (.int .i64 (accOf A a).1) ∧ w' = w := by
 by_cases ha : isAcc a
 · obtain ⟨k, rfl⟩ : ∃ k : Nat, a = k := ⟨a.toNat, by have := ha.1; omega⟩
   have hk : k < 10 := by have := ha.2; omega
   obtain ⟨v, c, c0, c1, c2, -, -⟩ := h.cells hk
   have hI := ref6_Is (k : Int) w
   rw [decide_eq_true (show 0 ≤ (k : Int) ∧ (k : Int) < 10 from ha)] at hI
   have HI := Lib.hid hI
   rw [accOf, if_pos ha, Int.toNat_natCast]
   have hk' : (k : Int) < 10 := ha.2
   clear hI h ha c1 c2
   go_enter Tryz.func40, Tryz.ntmps40
   go_wp2_with (first
    | (go_at_call 88; refine HI.out.mono ?_; rintro e w' ⟨rfl, hw⟩; rw [hw]; clear hw w')
    | fail)
   go_ret
   exact ⟨rfl, rfl⟩
 · have hI := ref6_Is a w
   rw [decide_eq_false (show ¬ (0 ≤ a ∧ a < 10) from ha)] at hI
   have HI := Lib.hid hI
   rw [accOf, if_neg ha]
   clear hI h ha
   go_enter Tryz.func40, Tryz.ntmps40
   go_wp2_with (first
    | (go_at_call 88; refine HI.out.mono ?_; rintro e w' ⟨rfl, hw⟩; rw [hw]; clear hw w')
    | fail)
   go_ret
   exact ⟨rfl, rfl⟩
end
end
section
open Go.RowKit Go.Maps
section
variable {y ab : Nat} {F : FP} {A : Acc} {M : Cls Int} {w : World}
theorem rowOf_no {a : Int} (h : ∀ x ∈ M, isAcc x.1.1) (ha : ¬ isAcc a) : rowOf M a = [] := by
 cases hr : rowOf M a with
 | nil => rfl
 | cons x l =>
  have := mem_rowOf.1 (show x ∈ rowOf M a by rw [hr]; simp)
  exact absurd (h _ this) ha
theorem ref6_Locked (h : RlAt y ab F A M w) (a : Int) (hlen : (rowOf M a).length ≤ 1000000) : Calls Tryz.prog 41 #[.pointer (some ⟨y, 0, none⟩), .int .i64 a] w fun e w' => e = .returned (.int .i64 (lockedOf M a)) ∧ w' = w := by
 by_cases ha : isAcc a
 · obtain ⟨k, rfl⟩ : ∃ k : Nat, a = k := ⟨a.toNat, by have := ha.1; omega⟩
   have hk : k < 10 := by have := ha.2; omega
   obtain ⟨v, c, c0, c1, c2, hrd, -⟩ := h.cells hk
   have hI := ref6_Is (k : Int) w
   rw [decide_eq_true (show 0 ≤ (k : Int) ∧ (k : Int) < 10 from ha)] at hI
   have HI := Lib.hid hI
   have hk' : (k : Int) < 10 := ha.2
   obtain ⟨ao, cap, rfl⟩ := hrd.lenOf
   unfold lockedOf
   obtain ⟨xs, hxs⟩ : ∃ xs, xs = rowOf M k := ⟨_, rfl⟩
   rw [← hxs] at hrd hlen c2 ⊢
   obtain ⟨n, hn⟩ : ∃ n, n = xs.length := ⟨_, rfl⟩
   rw [← hn] at hlen c2 hrd
   have HRD := Lib.hid (And.intro hrd hn)
   clear hI h ha c0 c1 hrd hxs hn
   go_enter Tryz.func41, Tryz.ntmps41
   go_wp2_with fail
   go_loopw [5, 6] (fun m i wr => ∃ j : Nat, j ≤ n ∧ m = .int .i64 (maxTo (xs.take j)) ∧ i = .int .i64 j ∧ wr = w) (fun _ i _ => n - (intOf i).toNat)
   case atStart => exact ⟨0, by omega, rfl, rfl, rfl⟩
   case round =>
    obtain ⟨j, hj, rfl, rfl, rfl⟩ := hrel
    by_cases hlt : j < n
    · have g1 : (j : Int) < n := by omega
      obtain ⟨b, off, rfl, hr, hb⟩ := HRD.out.1.at (show j < xs.length by rw [← HRD.out.2]; exact hlt)
      obtain ⟨x, hx⟩ : ∃ x, x = xs[j]'(by rw [← HRD.out.2]; exact hlt) := ⟨_, rfl⟩
      rw [← hx] at hr
      have d1 : wr.cell? ⟨b, off + j * 2 + 1, none⟩ = some (.int .i64 x.2) := hr 1 _ rfl
      have htk : xs.take (j + 1) = xs.take j ++ [x] := by rw [hx]; exact (take_snoc (by rw [← HRD.out.2]; exact hlt)).symm
      obtain ⟨mx, hmx⟩ : ∃ mx, mx = maxTo (xs.take j) := ⟨_, rfl⟩
      obtain ⟨xn, hxn⟩ : ∃ xn, xn = x.2 := ⟨_, rfl⟩
      have hst : maxTo (xs.take (j + 1)) = max mx xn := by rw [htk, maxTo_snoc, hmx, hxn]
      rw [← hmx]
      rw [← hxn] at d1
      obtain ⟨mz, hmz⟩ : ∃ mz, mz = max mx xn := ⟨_, rfl⟩
      have M1 : max mx xn = mz := hmz.symm
      have M2 : (if mx < xn then xn else mx) = mz := by rw [hmz]; split <;> omega
      rw [← hmz] at hst
      have HST := Lib.hid hst
      clear hmx hxn hst htk hx hr hmz
      go_wp2_with (first
       | (go_at_call 88; refine HI.out.mono ?_; rintro e w' ⟨rfl, hw⟩; rw [hw]; clear hw w')
       | fail)
      go_roundw
      case rel => exact ⟨j + 1, by omega, by rw [HST.out], by go_num, by first | rfl | trivial⟩
      case measure => simp [intOf]; omega
    · obtain rfl : j = n := by omega
      have g1 : ¬ (j : Int) < j := by omega
      have ht : maxTo (xs.take j) = maxTo xs := by rw [HRD.out.2, List.take_length]
      rw [ht]
      obtain ⟨mx, hmx⟩ : ∃ mx, mx = maxTo xs := ⟨_, rfl⟩
      have HM := Lib.hid hmx
      rw [← hmx]
      clear ht hmx
      go_wp2_with (first
       | (go_at_call 88; refine HI.out.mono ?_; rintro e w' ⟨rfl, hw⟩; rw [hw]; clear hw w')
       | fail)
      exact bodyPost_ret (v := .int .i64 mx) (by simp [results, Tryz.results41, go_sem]) rfl ⟨by rw [HM.out], rfl⟩
 · have hI := ref6_Is a w
   rw [decide_eq_false (show ¬ (0 ≤ a ∧ a < 10) from ha)] at hI
   have HI := Lib.hid hI
   have hz : lockedOf M a = 0 := by unfold lockedOf; rw [rowOf_no h.keys ha]; rfl
   rw [hz]
   clear hI h ha hz hlen
   go_enter Tryz.func41, Tryz.ntmps41
   go_wp2_with fail
   go_loopw [5, 6] (fun m i wr => m = .int .i64 0 ∧ i = .int .i64 0 ∧ wr = w) (fun _ _ _ => 0)
   case atStart => exact ⟨rfl, rfl, rfl⟩
   case round =>
    obtain ⟨rfl, rfl, rfl⟩ := hrel
    go_wp2_with (first
     | (go_at_call 88; refine HI.out.mono ?_; rintro e w' ⟨rfl, hw⟩; rw [hw]; clear hw w')
     | fail)
    exact bodyPost_ret (v := .int .i64 0) (by simp [results, Tryz.results41, go_sem]) rfl ⟨rfl, rfl⟩
theorem ref6_may (h : RlAt y ab F A M w) (hok : AccOk A) (a n : Int) (hlen : (rowOf M a).length ≤ 1000000) : Calls Tryz.prog 100 #[.pointer (some ⟨y, 0, none⟩), .int .i64 a, .int .i64 n] w fun e w' => e = .returned (.int .i64 (spendE A M a n false)) ∧ Below w.heap.size w w' := by
 by_cases ha : isAcc a
 · obtain ⟨k, rfl⟩ : ∃ k : Nat, a = k := ⟨a.toNat, by have := ha.1; omega⟩
   have hk : k < 10 := by have := ha.2; omega
   have hI := ref6_Is (k : Int) w
   rw [decide_eq_true (show 0 ≤ (k : Int) ∧ (k : Int) < 10 from ha)] at hI
   have HI := Lib.hid hI
   have hk' : (k : Int) < 10 := ha.2
   have HA := Lib.hid ha
   by_cases hb : isBal n
   · have g1 : ¬ n < 0 := by have := hb.1; omega
     have g2 : ¬ n > 1073741824 := by have := hb.2; omega
     obtain ⟨v, c, c0, c1, c2, -, -⟩ := h.cells hk
     obtain ⟨fr, hfr⟩ : ∃ fr, fr = (A k).1 := ⟨_, rfl⟩
     have fr0 : 0 ≤ fr := by rw [hfr]; exact hok.free k
     have fr1 : fr ≤ 1073741824 := by
      have h1 := hok.all
      have h2 := sumTo_mono (A := A) (fun k => by unfold both; have := hok.free k; have := hok.held k; omega) (show k + 1 ≤ 10 by omega)
      have h3 := sumTo_mono (A := A) (fun k => by unfold both; have := hok.free k; have := hok.held k; omega) (show 0 ≤ k by omega)
      have h4 : sumTo A (k + 1) = sumTo A k + both A k := rfl
      have h5 : sumTo A 0 = 0 := rfl
      have h6 := hok.held k
      unfold both at h4
      omega
     rw [← hfr] at c0
     have hsp : spendE A M k n false = if fr < n then 6 else if 0 < n ∧ fr - n < lockedOf M k then 7 else 0 := by
      unfold spendE
      rw [if_neg (fun e => e.elim (fun e => e HA.out) (fun e => e hb)), Int.toNat_natCast, ← hfr]
      simp
     have HSP := Lib.hid hsp
     have HFR := Lib.hid (And.intro fr0 fr1)
     have HB := Lib.hid hb
     by_cases q1 : n > fr
     · have he : spendE A M k n false = 6 := by rw [hsp, if_pos (by omega)]
       rw [he]
       clear hI h ha c1 c2 hok hsp he hb hfr fr0 fr1 hlen
       go_enter Tryz.func100, Tryz.ntmps100
       go_wp2_with (first
        | (go_at_call 88; refine HI.out.mono ?_; rintro e w' ⟨rfl, hw⟩; rw [hw]; clear hw w')
        | fail)
       exact bodyPost_ret (v := .int .i64 6) (by simp [results, Tryz.results100, go_sem]) rfl ⟨rfl, Below.refl _ w⟩
     · have W1 : IntKind.i64.wrap (fr - n) = fr - n := IntWalk.i64_in _ (by have := hb.1; have := hb.2; omega)
       by_cases q2 : n > 0
       · have hL := ref6_Locked (h.below (Below.refl _ w).drew) (k : Int) hlen
         obtain ⟨lk, hlk⟩ : ∃ lk, lk = lockedOf M k := ⟨_, rfl⟩
         rw [← hlk] at hL hsp
         have HL := Lib.hid hL
         have D1 := Lib.hid (show w.drew.cell? ⟨y, 0, none⟩ = some (.slice (some ⟨ab, 0, none⟩) 10 10) ∧ w.drew.cell? ⟨ab, k * 3, none⟩ = some (.int .i64 fr) from ⟨c, c0⟩)
         have fin : ∀ e, e = spendE A M k n false → ∀ W, Below w.heap.size w W → (Ending.returned (.int .i64 e) = .returned (.int .i64 (spendE A M k n false)) ∧ Below w.heap.size w W) := fun e he W hW => ⟨by rw [he], hW⟩
         have HF := Lib.hid fin
         have HSQ := Lib.hid hsp
         by_cases q3 : fr - n < lk
         · have he : spendE A M k n false = 7 := by rw [hsp, if_neg (by omega), if_pos ⟨q2, q3⟩]
           rw [he]
           clear hI h ha c1 c2 hok hsp he hb hfr fr0 fr1 hlen hL hlk fin
           go_enter Tryz.func100, Tryz.ntmps100
           have mixed : Tryz.prog.follows .mixedOrders = true := by kernel_rfl
           go_upto_region 5 with (first
            | (go_at_call 88; refine HI.out.mono ?_; rintro e w' ⟨rfl, hw⟩; rw [hw]; clear hw w')
            | fail)
           go_region_held3 (fun (W : World) => W.cell? ⟨y, 0, none⟩ = some (.slice (some ⟨ab, 0, none⟩) 10 10) ∧ W.cell? ⟨ab, k * 3, none⟩ = some (.int .i64 fr)) (exact D1.out) (first
            | (go_at_call 41; refine HL.out.mono ?_; rintro e w' ⟨rfl, hw⟩; rw [hw]; clear hw w')
            | fail)
           go_wp2_with fail
           exact bodyPost_ret (v := .int .i64 7) (by simp [results, Tryz.results100, go_sem]) rfl ⟨rfl, (Below.refl _ w).drew⟩
         · have he : spendE A M k n false = 0 := by rw [hsp, if_neg (by omega), if_neg (by omega)]
           rw [he]
           clear hI h ha c1 c2 hok hsp he hb hfr fr0 fr1 hlen hL hlk fin
           go_enter Tryz.func100, Tryz.ntmps100
           have mixed : Tryz.prog.follows .mixedOrders = true := by kernel_rfl
           go_upto_region 5 with (first
            | (go_at_call 88; refine HI.out.mono ?_; rintro e w' ⟨rfl, hw⟩; rw [hw]; clear hw w')
            | fail)
           go_region_held3 (fun (W : World) => W.cell? ⟨y, 0, none⟩ = some (.slice (some ⟨ab, 0, none⟩) 10 10) ∧ W.cell? ⟨ab, k * 3, none⟩ = some (.int .i64 fr)) (exact D1.out) (first
            | (go_at_call 41; refine HL.out.mono ?_; rintro e w' ⟨rfl, hw⟩; rw [hw]; clear hw w')
            | fail)
           go_wp2_with fail
           exact bodyPost_ret (v := .int .i64 0) (by simp [results, Tryz.results100, go_sem]) rfl ⟨rfl, (Below.refl _ w).drew⟩
       · have he : spendE A M k n false = 0 := by rw [hsp, if_neg (by omega), if_neg (by omega)]
         rw [he]
         obtain rfl : n = 0 := by have := hb.1; omega
         clear hI h ha c1 c2 hok hsp he hb hfr fr0 fr1 hlen g1 g2 q2 W1 HSP HB
         go_enter Tryz.func100, Tryz.ntmps100
         have mixed : Tryz.prog.follows .mixedOrders = true := by kernel_rfl
         go_upto_region 5 with (first
          | (go_at_call 88; refine HI.out.mono ?_; rintro e w' ⟨rfl, hw⟩; rw [hw]; clear hw w')
          | fail)
         go_wp2_with fail
         go_quiet (fail)
         go_wp2_with fail
         exact bodyPost_ret (v := .int .i64 0) (by simp [results, Tryz.results100, go_sem]) rfl ⟨rfl, ⟨rfl, rfl, rfl, Nat.le_refl _, fun k hk => rfl⟩⟩
   · have he : spendE A M k n false = 1 := if_pos (.inr hb)
     rw [he]
     have hn : n < 0 ∨ n > 1073741824 := by unfold isBal at hb; omega
     clear hI h ha hok he hb hlen
     rcases hn with q | q
     · go_enter Tryz.func100, Tryz.ntmps100
       go_wp2_with (first
        | (go_at_call 88; refine HI.out.mono ?_; rintro e w' ⟨rfl, hw⟩; rw [hw]; clear hw w')
        | fail)
       exact bodyPost_ret (v := .int .i64 1) (by simp [results, Tryz.results100, go_sem]) rfl ⟨rfl, Below.refl _ w⟩
     · have q' : ¬ n < 0 := by omega
       go_enter Tryz.func100, Tryz.ntmps100
       go_wp2_with (first
        | (go_at_call 88; refine HI.out.mono ?_; rintro e w' ⟨rfl, hw⟩; rw [hw]; clear hw w')
        | fail)
       exact bodyPost_ret (v := .int .i64 1) (by simp [results, Tryz.results100, go_sem]) rfl ⟨rfl, Below.refl _ w⟩
 · have hI := ref6_Is a w
   rw [decide_eq_false (show ¬ (0 ≤ a ∧ a < 10) from ha)] at hI
   have HI := Lib.hid hI
   have he : spendE A M a n false = 1 := if_pos (.inl ha)
   rw [he]
   clear hI h ha hok he hlen
   go_enter Tryz.func100, Tryz.ntmps100
   go_wp2_with (first
    | (go_at_call 88; refine HI.out.mono ?_; rintro e w' ⟨rfl, hw⟩; rw [hw]; clear hw w')
    | fail)
   exact bodyPost_ret (v := .int .i64 1) (by simp [results, Tryz.results100, go_sem]) rfl ⟨rfl, Below.refl _ w⟩
end
end
section
open Go.RowKit Go.Maps
theorem free_bd {A : Acc} (hok : AccOk A) {k : Nat} (hk : k < 10) : (0 ≤ (A k).1 ∧ (A k).1 ≤ 1073741824) ∧ (0 ≤ (A k).2 ∧ (A k).2 ≤ 1073741824) := by
 have h1 := hok.all
 have h2 := sumTo_mono (A := A) (fun k => by unfold both; have := hok.free k; have := hok.held k; omega) (show k + 1 ≤ 10 by omega)
 have h3 := sumTo_mono (A := A) (fun k => by unfold both; have := hok.free k; have := hok.held k; omega) (show 0 ≤ k by omega)
 have h4 : sumTo A (k + 1) = sumTo A k + both A k := rfl
 have h5 : sumTo A 0 = 0 := rfl
 have h6 := hok.held k
 have h7 := hok.free k
 unfold both at h4
 omega
section
variable {y ab : Nat} {F : FP} {A : Acc} {M : Cls Int} {w : World}
theorem RlTo.then_below {w1 w' : World} {A' : Acc} (h : RlTo y ab F A' M w w1) (hb : Below w1.heap.size w1 w') : RlTo y ab F A' M w w' := by
 obtain ⟨F', k1, k2, k3⟩ := h
 have hs := k3.grow.size
 exact ⟨F', k1.below hb, k2, k3.grow.trans (Grow.of_below hb), fun k hk q1 q2 => (hb.block k (by omega)).trans (k3.block k hk q1 q2)⟩
theorem RlTo.setO {A0 A1 A2 : Acc} {M0 : Cls Int} {w' : World} (h : RlAt y ab F A0 M0 w) (ht : RlTo y ab F A1 M w w') {j : Nat} {u : Value} (h2 : RlAt y ab F A2 M (w'.setCell ⟨ab, j, none⟩ u)) : RlTo y ab F A2 M w (w'.setCell ⟨ab, j, none⟩ u) := by
 obtain ⟨F', k1, k2, k3⟩ := ht
 have hF : F ab := by
  obtain ⟨vs, C, -, -, -, -, -, q, -⟩ := h
  exact q
 refine ⟨F, h2, fun k hk => .inl hk, ⟨k3.grow.os, k3.grow.tape, k3.grow.output, by have := k3.grow.size; simpa [World.setCell] using this⟩, fun k hk q1 q2 => ?_⟩
 rw [Below.heap_setCell _ _ _ k (by show k ≠ ab; exact fun e => q1 (e ▸ hF))]
 exact k3.block k hk q1 q2
structure Hop (y ab : Nat) (F : FP) (A : Acc) (M : Cls Int) (w W : World) : Prop where
 rl : RlAt y ab F A M W
 rt : RlTo y ab F A M w W
theorem Hop.start (h : RlAt y ab F A M w) {W : World} (hb : Below w.heap.size w W) : Hop y ab F A M w W := ⟨h.below hb, RlTo.of_below h hb⟩
theorem Hop.below {W W' : World} (hp : Hop y ab F A M w W) (hb : Below W.heap.size W W') : Hop y ab F A M w W' := ⟨hp.rl.below hb, hp.rt.then_below hb⟩
theorem Hop.free {A0 : Acc} {M0 : Cls Int} {W : World} (h : RlAt y ab F A0 M0 w) (hp : Hop y ab F A M w W) {k : Nat} (hk : k < 10) (x : Int) : Hop y ab F (upd A k (x, (A k).2)) M w (W.setCell ⟨ab, k * 3, none⟩ (.int .i64 x)) := ⟨hp.rl.free hk x, RlTo.setO h hp.rt (hp.rl.free hk x)⟩
theorem Hop.cells {W : World} (hp : Hop y ab F A M w W) {k : Nat} (hk : k < 10) : W.cell? ⟨y, 0, none⟩ = some (.slice (some ⟨ab, 0, none⟩) 10 10) ∧ W.cell? ⟨ab, k * 3, none⟩ = some (.int .i64 (A k).1) ∧ W.cell? ⟨ab, k * 3 + 1, none⟩ = some (.int .i64 (A k).2) ∧ W.frozen? ⟨ab, k * 3, none⟩ = false ∧ W.frozen? ⟨ab, k * 3 + 1, none⟩ = false := by
 obtain ⟨v, c, c0, c1, -, -, fz⟩ := hp.rl.cells hk
 exact ⟨c, c0, c1, fz _, fz _⟩
theorem take_zero (A : Acc) (k : Nat) : takeA A k 0 = A := by funext i; by_cases e : i = k <;> simp [takeA, upd, e]
end
end
section
open Go.RowKit Go.Maps
theorem spendE_back (A : Acc) (M : Cls Int) (a n : Int) : spendE A M a n true = if spendE A M a n false = 7 then 0 else spendE A M a n false := by
 unfold spendE
 by_cases h1 : ¬ isAcc a ∨ ¬ isBal n
 · rw [if_pos h1, if_pos h1]; rfl
 · rw [if_neg h1, if_neg h1]
   by_cases h2 : (A a.toNat).1 < n
   · rw [if_pos h2, if_pos h2]; rfl
   · rw [if_neg h2, if_neg h2, if_neg (by simp)]
     split <;> rfl
section
variable {y ab : Nat} {F : FP} {A : Acc} {M : Cls Int} {w : World}
theorem ref6_Transfer (h : RlAt y ab F A M w) (hok : AccOk A) (a b n : Int) (hlen : (rowOf M a).length ≤ 1000000) : Calls Tryz.prog 39 #[.pointer (some ⟨y, 0, none⟩), .int .i64 a, .int .i64 b, .int .i64 n] w fun e w' => e = .returned (.int .i64 (transE A M a b n)) ∧ Hop y ab F (transA A M a b n) M w w' := by
 by_cases hb : isAcc b
 · have hI := ref6_Is b w
   rw [decide_eq_true (show 0 ≤ b ∧ b < 10 from hb)] at hI
   have HI := Lib.hid hI
   have hm := ref6_may h hok a n hlen
   have hT : transE A M a b n = spendE A M a n (decide (a = b)) := by unfold transE; rw [if_pos hb]
   obtain ⟨q, hq⟩ : ∃ q, q = spendE A M a n false := ⟨_, rfl⟩
   rw [← hq] at hm
   have HM0 := Lib.hid hm
   have HH := Lib.hid h
   have hcase : (transE A M a b n = 0 ∧ (q = 0 ∨ (a = b ∧ q = 7))) ∨ (transE A M a b n = q ∧ q ≠ 0 ∧ ¬ (a = b ∧ q = 7)) := by
    rw [hT]
    by_cases e : a = b
    · rw [decide_eq_true e, spendE_back, ← hq]
      by_cases q7 : q = 7
      · rw [if_pos q7]; exact .inl ⟨rfl, .inr ⟨e, q7⟩⟩
      · rw [if_neg q7]
        by_cases q0 : q = 0
        · exact .inl ⟨q0, .inl q0⟩
        · exact .inr ⟨rfl, q0, fun x => q7 x.2⟩
    · rw [decide_eq_false e, ← hq]
      by_cases q0 : q = 0
      · exact .inl ⟨q0, .inl q0⟩
      · exact .inr ⟨rfl, q0, fun x => e x.1⟩
   rcases hcase with ⟨h0, hc⟩ | ⟨h0, q0, hc⟩
   · have he := h0
     rw [hT] at he
     obtain ⟨ha, hbn, hn⟩ := spendE_ok he
     obtain ⟨k, rfl⟩ : ∃ k : Nat, a = k := ⟨a.toNat, by have := ha.1; omega⟩
     obtain ⟨j, rfl⟩ : ∃ j : Nat, b = j := ⟨b.toNat, by have := hb.1; omega⟩
     have hk : k < 10 := by have := ha.2; omega
     have hj : j < 10 := by have := hb.2; omega
     have hk' : (k : Int) < 10 := ha.2
     have hj' : (j : Int) < 10 := hb.2
     rw [Int.toNat_natCast] at hn
     obtain ⟨⟨f0, f1⟩, -⟩ := free_bd hok hk
     obtain ⟨⟨e0, e1⟩, -⟩ := free_bd hok hj
     obtain ⟨fr, hfr⟩ : ∃ fr, fr = (A k).1 := ⟨_, rfl⟩
     obtain ⟨tv, htv⟩ : ∃ tv, tv = (upd A k (fr - n, (A k).2) j).1 := ⟨_, rfl⟩
     rw [← hfr] at hn f0 f1
     have htb : 0 ≤ tv ∧ tv ≤ 1073741824 := by
      rw [htv]
      unfold upd
      have := hbn.1
      split
      · show 0 ≤ fr - n ∧ fr - n ≤ 1073741824
        omega
      · omega
     have W1 : IntKind.i64.wrap (fr - n) = fr - n := IntWalk.i64_in _ (by have := hbn.1; omega)
     have W2 : IntKind.i64.wrap (tv + n) = tv + n := IntWalk.i64_in _ (by have := hbn.1; have := hbn.2; omega)
     have hS : transA A M k j n = upd (upd A k (fr - n, (A k).2)) j (tv + n, (upd A k (fr - n, (A k).2) j).2) := by
      unfold transA giveA spendA
      rw [if_pos h0, Int.toNat_natCast, Int.toNat_natCast, ← hfr, ← htv]
     have HK := Lib.hid hk
     have HJ := Lib.hid hj
     have HFR := Lib.hid hfr
     have HTO := Lib.hid (And.intro htv hS)
     rw [h0]
     clear hI hm hT hq h hok hlen he ha hbn hn hfr htv htb f0 f1 e0 e1 hS hk hj h0 hb
     by_cases e : (k : Int) = j
     · have g1 : ((k : Int) == (j : Int)) = true := by simp [e]
       rcases hc with rfl | ⟨-, rfl⟩
       all_goals
        clear e
        go_enter Tryz.func39, Tryz.ntmps39
        go_upto_region 8 with (first
         | (go_at_call 88; refine HI.out.mono ?_; rintro e w' ⟨rfl, hw⟩; rw [hw]; clear hw w')
         | (go_at_call 100; refine HM0.out.mono ?_; rintro e w1 ⟨rfl, hb⟩; have HB := Lib.hid hb; clear hb)
         | fail)
        have hp1 := Hop.start HH.out HB.out
        obtain ⟨c, c0, c1, z0, z1⟩ := (hp1.below (Below.refl _ w1).drew).cells HK.out
        rw [← HFR.out] at c0
        have hp2 := (hp1.free HH.out HK.out (fr - n)).below (Below.refl _ _).drew
        obtain ⟨X, hX⟩ : ∃ X, X = (w1.setCell ⟨ab, k * 3, none⟩ (.int .i64 (fr - n))).drew := ⟨_, rfl⟩
        rw [← hX] at hp2
        have HXX := Lib.hid hX
        have HP2 := Lib.hid hp2
        clear hp1 hp2 c1 z1 hX
        go_still_tail 15, (by kernel_rfl)
        change wpList _ _ _ _ _ w1.drew
        go_upto_region 9 with fail
        rw [← HXX.out]
        have hp3 := HP2.out.below (Below.refl _ X).drew
        obtain ⟨c, c0, c1, z0, z1⟩ := hp3.cells HJ.out
        rw [← HTO.out.1] at c0
        have HF := Lib.hid (hp3.free HH.out HJ.out (tv + n))
        clear hp3 c1 z1
        go_still_tail 15, (by kernel_rfl)
        change wpList _ _ _ _ _ X.drew
        go_wp2_with fail
        exact bodyPost_ret (v := .int .i64 0) (by simp [results, Tryz.results39, go_sem]) rfl ⟨rfl, by rw [HTO.out.2]; exact HF.out⟩
     · have g1 : ((k : Int) == (j : Int)) = false := by simpa using e
       obtain rfl : q = 0 := hc.elim id (fun x => absurd x.1 e)
       clear hc e
       go_enter Tryz.func39, Tryz.ntmps39
       go_upto_region 8 with (first
        | (go_at_call 88; refine HI.out.mono ?_; rintro e w' ⟨rfl, hw⟩; rw [hw]; clear hw w')
        | (go_at_call 100; refine HM0.out.mono ?_; rintro e w1 ⟨rfl, hb⟩; have HB := Lib.hid hb; clear hb)
        | fail)
       have hp1 := Hop.start HH.out HB.out
       obtain ⟨c, c0, c1, z0, z1⟩ := (hp1.below (Below.refl _ w1).drew).cells HK.out
       rw [← HFR.out] at c0
       have hp2 := (hp1.free HH.out HK.out (fr - n)).below (Below.refl _ _).drew
       obtain ⟨X, hX⟩ : ∃ X, X = (w1.setCell ⟨ab, k * 3, none⟩ (.int .i64 (fr - n))).drew := ⟨_, rfl⟩
       rw [← hX] at hp2
       have HXX := Lib.hid hX
       have HP2 := Lib.hid hp2
       clear hp1 hp2 c1 z1 hX
       go_still_tail 15, (by kernel_rfl)
       change wpList _ _ _ _ _ w1.drew
       go_upto_region 9 with fail
       rw [← HXX.out]
       have hp3 := HP2.out.below (Below.refl _ X).drew
       obtain ⟨c, c0, c1, z0, z1⟩ := hp3.cells HJ.out
       rw [← HTO.out.1] at c0
       have HF := Lib.hid (hp3.free HH.out HJ.out (tv + n))
       clear hp3 c1 z1
       go_still_tail 15, (by kernel_rfl)
       change wpList _ _ _ _ _ X.drew
       go_wp2_with fail
       exact bodyPost_ret (v := .int .i64 0) (by simp [results, Tryz.results39, go_sem]) rfl ⟨rfl, by rw [HTO.out.2]; exact HF.out⟩
   · have hS : transA A M a b n = A := by unfold transA; rw [h0, if_neg q0]
     rw [h0, hS]
     have g2 : (q != 0) = true := by simpa using q0
     clear hI hm hT hq h hok hlen hS h0 hb
     by_cases e : a = b
     · have g1 : (a == b) = true := by simp [e]
       have g3 : (q == 7) = false := by simp; exact fun x => hc ⟨e, x⟩
       clear hc e q0
       go_enter Tryz.func39, Tryz.ntmps39
       go_wp2_with (first
        | (go_at_call 88; refine HI.out.mono ?_; rintro e w' ⟨rfl, hw⟩; rw [hw]; clear hw w')
        | (go_at_call 100; refine HM0.out.mono ?_; rintro e w1 ⟨rfl, hb⟩; have HB := Lib.hid hb; clear hb)
        | fail)
       exact bodyPost_ret (v := .int .i64 q) (by simp [results, Tryz.results39, go_sem]) rfl ⟨rfl, Hop.start HH.out HB.out⟩
     · have g1 : (a == b) = false := by simpa using e
       clear hc e q0
       go_enter Tryz.func39, Tryz.ntmps39
       go_wp2_with (first
        | (go_at_call 88; refine HI.out.mono ?_; rintro e w' ⟨rfl, hw⟩; rw [hw]; clear hw w')
        | (go_at_call 100; refine HM0.out.mono ?_; rintro e w1 ⟨rfl, hb⟩; have HB := Lib.hid hb; clear hb)
        | fail)
       exact bodyPost_ret (v := .int .i64 q) (by simp [results, Tryz.results39, go_sem]) rfl ⟨rfl, Hop.start HH.out HB.out⟩
 · have hI := ref6_Is b w
   rw [decide_eq_false (show ¬ (0 ≤ b ∧ b < 10) from hb)] at hI
   have HI := Lib.hid hI
   have hT : transE A M a b n = 1 := if_neg hb
   have hS : transA A M a b n = A := by unfold transA; rw [hT]; rfl
   rw [hT, hS]
   have HH := Lib.hid (Hop.start h (Below.refl _ w))
   clear hI h hok hb hT hS hlen
   go_enter Tryz.func39, Tryz.ntmps39
   go_wp2_with (first
    | (go_at_call 88; refine HI.out.mono ?_; rintro e w' ⟨rfl, hw⟩; rw [hw]; clear hw w')
    | fail)
   exact bodyPost_ret (v := .int .i64 1) (by simp [results, Tryz.results39, go_sem]) rfl ⟨rfl, HH.out⟩
end
end
section
open Go.RowKit Go.Maps
def lkStep (i n : Int) (s : List (Int × Int) × Bool) (o : Int × Int) : List (Int × Int) × Bool :=
 if o.1 = i then (if s.2 = false ∧ i ≤ o.1 then (s.1 ++ [(i, n)], true) else s)
 else if s.2 = false ∧ i ≤ o.1 then (s.1 ++ [(i, n)] ++ [o], true) else (s.1 ++ [o], s.2)
def lkAll (i n : Int) (l0 : Bool) (xs : List (Int × Int)) : List (Int × Int) × Bool := xs.foldl (lkStep i n) ([], l0)
theorem lkAll_snoc (i n : Int) (l0 : Bool) (xs : List (Int × Int)) (o : Int × Int) : lkAll i n l0 (xs ++ [o]) = lkStep i n (lkAll i n l0 xs) o := by simp [lkAll]
def lkEnd (i n : Int) (s : List (Int × Int) × Bool) : List (Int × Int) := if s.2 = false then s.1 ++ [(i, n)] else s.1
theorem snocK {l : List (Int × Int)} {o : Int × Int} (h : SrtK l) (hm : ∀ x ∈ l, x.1 < o.1) : SrtK (l ++ [o]) := List.pairwise_append.2 ⟨h, List.pairwise_singleton _ _, fun x hx y hy => by rw [List.mem_singleton.1 hy]; exact hm x hx⟩
theorem snocInd {α : Type} {P : List α → Prop} (h0 : P []) (h1 : ∀ xs x, P xs → P (xs ++ [x])) : ∀ xs, P xs := by
 have key : ∀ n, ∀ xs : List α, xs.length = n → P xs := by
  intro n
  induction n with
  | zero => intro xs h; rw [List.eq_nil_of_length_eq_zero h]; exact h0
  | succ n ih =>
   intro xs h
   rcases List.eq_nil_or_concat xs with rfl | ⟨q, y, rfl⟩
   · simp at h
   · have hq : q.length = n := by simp at h; omega
     have := h1 q y (ih q hq)
     simpa using this
 exact fun xs => key _ xs rfl
theorem lk_true (i n : Int) : ∀ (xs : List (Int × Int)), lkAll i n true xs = (sdel xs i, true) := by
 refine snocInd rfl (fun xs o ih => ?_)
 · rw [lkAll_snoc, ih]
   unfold lkStep sdel
   rw [List.filter_append]
   by_cases e : o.1 = i <;> simp [e]
structure LkI (i n : Int) (pre : List (Int × Int)) (s : List (Int × Int) × Bool) : Prop where
 srt : SrtK s.1
 no : s.2 = false → s.1 = pre ∧ ∀ x ∈ pre, x.1 < i
 yes : s.2 = true → (∃ o ∈ pre, i ≤ o.1) ∧ ∀ x, x ∈ s.1 ↔ x = (i, n) ∨ (x ∈ pre ∧ x.1 ≠ i)
theorem lk_false (i n : Int) : ∀ (xs : List (Int × Int)), SrtK xs → LkI i n xs (lkAll i n false xs) := by
 refine snocInd (fun _ => ⟨List.Pairwise.nil, fun _ => ⟨rfl, fun x hx => by simp at hx⟩, (fun h => by cases h)⟩) (fun xs o ih => ?_)
 · intro hs
   obtain ⟨h1, -, h2⟩ := List.pairwise_append.1 hs
   have h2 : ∀ x ∈ xs, x.1 < o.1 := fun x hx => h2 x hx o (by simp)
   rw [lkAll_snoc]
   obtain ⟨st, hst⟩ : ∃ st, st = lkAll i n false xs := ⟨_, rfl⟩
   rw [← hst] at ih ⊢
   obtain ⟨q1, q2, q3⟩ := ih h1
   clear hst ih
   obtain ⟨acc, laid⟩ := st
   replace q1 : SrtK acc := q1
   replace q2 : laid = false → acc = xs ∧ ∀ x ∈ xs, x.1 < i := q2
   replace q3 : laid = true → (∃ o ∈ xs, i ≤ o.1) ∧ ∀ x, x ∈ acc ↔ x = (i, n) ∨ (x ∈ xs ∧ x.1 ≠ i) := q3
   unfold lkStep
   cases laid with
   | false =>
    obtain ⟨rfl, hlt⟩ := q2 rfl
    by_cases e : o.1 = i
    · rw [if_pos e, if_pos ⟨rfl, by omega⟩]
      refine ⟨snocK q1 hlt, (fun h => by cases h), fun _ => ⟨⟨o, by simp, by omega⟩, fun x => ?_⟩⟩
      simp only [List.mem_append, List.mem_singleton]
      constructor
      · rintro (h | h)
        · exact .inr ⟨.inl h, by have := hlt x h; omega⟩
        · exact .inl h
      · rintro (h | ⟨h | h, h3⟩)
        · exact .inr h
        · exact .inl h
        · rw [h] at h3; exact absurd e h3
    · rw [if_neg e]
      by_cases hi : i ≤ o.1
      · rw [if_pos ⟨rfl, hi⟩]
        refine ⟨snocK (snocK q1 hlt) (fun x hx => ?_), (fun h => by cases h), fun _ => ⟨⟨o, by simp, hi⟩, fun x => ?_⟩⟩
        · rcases List.mem_append.1 hx with hx | hx
          · exact h2 x hx
          · rw [List.mem_singleton.1 hx]; show i < o.1; omega
        · simp only [List.mem_append, List.mem_singleton]
          constructor
          · rintro ((h | h) | h)
            · exact .inr ⟨.inl h, by have := hlt x h; omega⟩
            · exact .inl h
            · exact .inr ⟨.inr h, by rw [h]; exact e⟩
          · rintro (h | ⟨h | h, h3⟩)
            · exact .inl (.inr h)
            · exact .inl (.inl h)
            · exact .inr h
      · rw [if_neg (fun h => hi h.2)]
        refine ⟨snocK q1 h2, fun _ => ⟨rfl, fun x hx => ?_⟩, (fun h => by cases h)⟩
        rcases List.mem_append.1 hx with hx | hx
        · exact hlt x hx
        · rw [List.mem_singleton.1 hx]; omega
   | true =>
    obtain ⟨⟨p, hp, hip⟩, hm⟩ := q3 rfl
    have hpo := h2 p hp
    rw [if_neg (show ¬ o.1 = i by omega), if_neg (fun h => by cases h.1)]
    refine ⟨snocK q1 (fun x hx => ?_), (fun h => by cases h), fun _ => ⟨⟨p, List.mem_append_left _ hp, hip⟩, fun x => ?_⟩⟩
    · rcases (hm x).1 hx with rfl | ⟨h, -⟩
      · show i < o.1; omega
      · exact h2 x h
    · simp only [List.mem_append, List.mem_singleton, hm]
      constructor
      · rintro ((h | ⟨h, h3⟩) | h)
        · exact .inl h
        · exact .inr ⟨.inl h, h3⟩
        · exact .inr ⟨.inr h, by rw [h]; omega⟩
      · rintro (h | ⟨h | h, h3⟩)
        · exact .inl (.inl h)
        · exact .inl (.inr ⟨h, h3⟩)
        · exact .inr h
theorem mem_sputL {xs : List (Int × Int)} {i n : Int} {x : Int × Int} : x ∈ sput xs i n ↔ x = (i, n) ∨ (x ∈ xs ∧ x.1 ≠ i) := by
 unfold sput sdel
 rw [mem_ins]
 simp
theorem lk_put {i n : Int} {xs : List (Int × Int)} (hs : SrtK xs) (hp : SrtK (sput xs i n)) : lkEnd i n (lkAll i n false xs) = sput xs i n := by
 obtain ⟨h1, h2, h3⟩ := lk_false i n xs hs
 unfold lkEnd
 split
 · rename_i e
   obtain ⟨e1, e2⟩ := h2 e
   rw [e1]
   refine SrtK.ext (snocK hs e2) hp (fun x => ?_)
   rw [mem_sputL, List.mem_append, List.mem_singleton]
   constructor
   · rintro (h | h)
     · exact .inr ⟨h, by have := e2 x h; omega⟩
     · exact .inl h
   · rintro (h | ⟨h, -⟩)
     · exact .inr h
     · exact .inl h
 · rename_i e
   have e : (lkAll i n false xs).2 = true := by simpa using e
   refine SrtK.ext h1 hp (fun x => ?_)
   rw [mem_sputL]
   exact (h3 e).2 x
theorem lk_row {M : Cls Int} (hs : SrtC M) {a : Int} (ha : isAcc a) (i n : Int) : lkEnd i n (lkAll i n (decide (n = 0 ∨ ¬ isBal n)) (rowOf M a)) = rowOf (lockM M a i n) a := by
 unfold lockM
 rw [if_neg (fun e => e ha)]
 by_cases h : n = 0 ∨ ¬ isBal n
 · rw [decide_eq_true h, if_pos h, lk_true, hs.row_del, if_pos rfl]
   rfl
 · rw [decide_eq_false h, if_neg h]
   rw [hs.row_put, if_pos rfl]
   exact lk_put (hs.row a) ((hs.row a).put i n)
end
end Go.Proofs.YtbpemdihoabbcaaGreat
