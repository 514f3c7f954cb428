/-
  Joined texts.
-/
import Derived.Test.YtlnjcfgihklppaaGreatMgk

section
namespace Go.Proofs.YtlnjcfgihklppaaGreat
open Go.RowKit Go.Maps Go.Shelf
set_option linter.unusedVariables false
set_option linter.unusedSimpArgs false

/-- A pair in memory. -/
structure PvAt (p g vb N : Nat) (S : Vs) (A : Acc) (M : Cls Int) (now : Int) (Zn : FP) (w : World) : Prop where
  lv : LvAt g vb N S A M Zn w
  inv : VInv S
  key : KeyBox M
  pr : ∃ px py, w.heap[p]? = some (.cells #[.pointer (some ⟨g, 0, none⟩), .pointer (some ⟨vb, 0, none⟩), .pointer px, .pointer py, .int .i64 now] 60 (0, 0))
  nz : ¬ Zn p
  lo : N ≤ p
def PvTo (p g vb N : Nat) (S : Vs) (A : Acc) (M : Cls Int) (now : Int) (Zn : FP) (w w' : World) : Prop := ∃ Z', PvAt p g vb N S A M now Z' w' ∧ (∀ k, Z' k → Zn k ∨ w.heap.size ≤ k) ∧ Only Zn (fun _ => False) w w'
section
variable {p g vb N : Nat} {S S' : Vs} {A A' : Acc} {M M' : Cls Int} {now : Int} {Zn : FP} {w w' : World}
theorem PvAt.lt (h : PvAt p g vb N S A M now Zn w) : p < w.heap.size := by obtain ⟨px, py, h1⟩ := h.pr; exact (Array.getElem?_eq_some_iff.1 h1).1
theorem PvAt.cells (h : PvAt p g vb N S A M now Zn w) : w.cell? ⟨p, 0, none⟩ = some (.pointer (some ⟨g, 0, none⟩)) ∧ w.cell? ⟨p, 1, none⟩ = some (.pointer (some ⟨vb, 0, none⟩)) ∧ w.cell? ⟨p, 4, none⟩ = some (.int .i64 now) := by
  obtain ⟨px, py, h1⟩ := h.pr
  exact ⟨by rw [World.cell?, h1]; rfl, by rw [World.cell?, h1]; rfl, by rw [World.cell?, h1]; rfl⟩
theorem PvAt.keep (h : PvAt p g vb N S A M now Zn w) (hg : Grow w w') (hk : ∀ k, Zn k ∨ k = p → w'.heap[k]? = w.heap[k]?) : PvAt p g vb N S A M now Zn w' := by
  obtain ⟨px, py, h1⟩ := h.pr
  exact ⟨h.lv.keep hg (fun k hz => hk k (.inl hz)), h.inv, h.key, ⟨px, py, (hk p (.inr rfl)).trans h1⟩, h.nz, h.lo⟩
theorem PvAt.below (h : PvAt p g vb N S A M now Zn w) (hb : Below w.heap.size w w') : PvAt p g vb N S A M now Zn w' := h.keep (Grow.of_below hb) (fun k hk => hb.block k (hk.elim h.lv.lt (fun e => e ▸ h.lt)))
theorem PvAt.step (h : PvAt p g vb N S A M now Zn w) (ht : LvTo g vb N S' A' M' Zn w w') (hi : VInv S') (hk : KeyBox M') : PvTo p g vb N S' A' M' now Zn w w' := by
  obtain ⟨Z', k1, k2, k3⟩ := ht
  obtain ⟨px, py, h1⟩ := h.pr
  exact ⟨Z', ⟨k1, hi, hk, ⟨px, py, (k3.block p h.lt h.nz (fun h => h)).trans h1⟩, fun hz => (k2 p hz).elim h.nz (fun e => by have := h.lt; omega), h.lo⟩, k2, k3⟩
theorem PvTo.below (h : PvAt p g vb N S A M now Zn w) (ht : PvTo p g vb N S' A' M' now Zn w w') : Below N w w' := by
  obtain ⟨Z2, k1, k2, k3⟩ := ht
  exact k3.below h.lv.size (fun k hk => h.lv.lo hk) (fun k h => h.elim)
theorem PvAt.lenM (h : PvAt p g vb N S A M now Zn w) : M.length < 10000 := by
  obtain ⟨F, FL, h1, h2, h3, h4⟩ := h.lv
  have := h.key.len h2.srt.1
  omega
theorem PvAt.srtD (h : PvAt p g vb N S A M now Zn w) : SrtC S.V ∧ SrtC S.D ∧ SrtC S.G ∧ SrtC S.Q := by
  obtain ⟨F, FL, h1, h2, h3, h4⟩ := h.lv
  exact h1.srt
/-- What an act of the voting answers and leaves. -/
def Ans (p g vb N : Nat) (E : Int) (S : Vs) (A : Acc) (M : Cls Int) (now : Int) (Zn : FP) (w : World) (e : Ending) (w' : World) : Prop := e = .returned (.int .i64 E) ∧ PvTo p g vb N S A M now Zn w w'
theorem PvAt.vOpen (h : PvAt p g vb N S A M now Zn w) (r t : Int) : Calls Tryz.prog 17 #[.pointer (some ⟨vb, 0, none⟩), .int .i64 r, .int .i64 t] w (Ans p g vb N (openE S.P r t) (openS S r t) A M now Zn w) := by
  obtain ⟨F, hx, lift⟩ := h.lv.vo
  exact (hx.Open r t).mono fun e w' ⟨he, hto⟩ => ⟨he, h.step (lift _ _ hto) (h.inv.open r t) h.key⟩
theorem PvAt.vClose (h : PvAt p g vb N S A M now Zn w) (r st en : Int) : Calls Tryz.prog 18 #[.pointer (some ⟨vb, 0, none⟩), .int .i64 r, .int .i64 st, .int .i64 en] w (Ans p g vb N (closeE S.P r st) (closeS S r st en) A M now Zn w) := by
  obtain ⟨F, hx, lift⟩ := h.lv.vo
  exact (hx.Close r st en).mono fun e w' ⟨he, hto⟩ => ⟨he, h.step (lift _ _ hto) (h.inv.close r st en) h.key⟩
theorem PvAt.vUnvote (h : PvAt p g vb N S A M now Zn w) {a r : Int} (ha : (Lit.int .i64 a).wf = true) (hr : (Lit.int .i64 r).wf = true) (nw : Int) : Calls Tryz.prog 20 #[.pointer (some ⟨vb, 0, none⟩), .int .i64 a, .int .i64 r, .int .i64 nw] w (Ans p g vb N (unvoteE S a r) (unvoteS S a r nw) A M now Zn w) := by
  obtain ⟨F, hx, lift⟩ := h.lv.vo
  exact (hx.Unvote h.inv ha hr).mono fun e w' ⟨he, hto⟩ => ⟨he, h.step (lift _ _ hto) (h.inv.unvote a r nw) h.key⟩
theorem PvAt.vUndelegate (h : PvAt p g vb N S A M now Zn w) {a t : Int} (ha : (Lit.int .i64 a).wf = true) (ht : (Lit.int .i64 t).wf = true) (nw : Int) : Calls Tryz.prog 22 #[.pointer (some ⟨vb, 0, none⟩), .int .i64 a, .int .i64 t, .int .i64 nw] w (Ans p g vb N (undE S a t) (undS S a t nw) A M now Zn w) := by
  obtain ⟨F, hx, lift⟩ := h.lv.vo
  exact (hx.Undelegate h.inv ha ht).mono fun e w' ⟨he, hto⟩ => ⟨he, h.step (lift _ _ hto) (h.inv.und hx.srt.2.1 a t nw) h.key⟩
theorem PvAt.vVote (h : PvAt p g vb N S A M now Zn w) {a r : Int} (ha : (Lit.int .i64 a).wf = true) (hr : (Lit.int .i64 r).wf = true) (x : Bal) : Calls Tryz.prog 19 #[.pointer (some ⟨vb, 0, none⟩), .pointer (some ⟨g, 0, none⟩), .int .i64 a, .int .i64 r, .agg #[.int .i64 x.k, .bool x.aye, .int .i64 x.l, .int .i64 x.a, .int .i64 x.n, .int .i64 x.s]] w (Ans p g vb N (voteE S A a r x) (voteS S A a r x) A (voteM S A M a r x) now Zn w) :=
  (h.lv.Vote h.inv h.lenM ha hr x).mono fun e w' ⟨he, hto⟩ => ⟨he, h.step hto (h.inv.vote A a r x) (h.key.voteM h.inv A a r x)⟩
theorem PvAt.vDelegate (h : PvAt p g vb N S A M now Zn w) {a t who : Int} (ha : (Lit.int .i64 a).wf = true) (ht : (Lit.int .i64 t).wf = true) (l n : Int) : Calls Tryz.prog 21 #[.pointer (some ⟨vb, 0, none⟩), .pointer (some ⟨g, 0, none⟩), .int .i64 a, .int .i64 t, .int .i64 who, .int .i64 l, .int .i64 n] w (Ans p g vb N (delE S A a t who l n) (delS S A a t who l n) A (delM S A M a t who l n) now Zn w) :=
  (h.lv.Delegate h.inv h.lenM ha ht l n).mono fun e w' ⟨he, hto⟩ => ⟨he, h.step hto (h.inv.del A a t who l n) (h.key.delM S A a t who l n)⟩
theorem PvAt.vUnlock (h : PvAt p g vb N S A M now Zn w) {a t : Int} (ha : (Lit.int .i64 a).wf = true) (ht : (Lit.int .i64 t).wf = true) (nw : Int) : Calls Tryz.prog 23 #[.pointer (some ⟨vb, 0, none⟩), .pointer (some ⟨g, 0, none⟩), .int .i64 a, .int .i64 t, .int .i64 nw] w (Ans p g vb N (unlE a t) (unlS S a t nw) A (unlM S M a t nw) now Zn w) :=
  (h.lv.Unlock h.inv h.lenM ha ht).mono fun e w' ⟨he, hto⟩ => ⟨he, h.step hto (h.inv.unl a t nw) (h.key.unlM S a t nw)⟩
theorem PvAt.vTransfer (h : PvAt p g vb N S A M now Zn w) {a : Int} (ha : (Lit.int .i64 a).wf = true) (b n : Int) : Calls Tryz.prog 34 #[.pointer (some ⟨g, 0, none⟩), .int .i64 a, .int .i64 b, .int .i64 n] w (Ans p g vb N (transE A M a b n) S (transA A M a b n) M now Zn w) := by
  obtain ⟨FL, hx, lift⟩ := h.lv.ld
  exact (ledger_TransferX hx ha b n).mono fun e w' ⟨he, hto⟩ => ⟨he, h.step (lift _ _ _ hto) h.inv h.key⟩
theorem PvAt.vLocked (h : PvAt p g vb N S A M now Zn w) {a : Int} (ha : (Lit.int .i64 a).wf = true) : Calls Tryz.prog 30 #[.pointer (some ⟨g, 0, none⟩), .int .i64 a] w fun e w' => e = .returned (.int .i64 (lockedOf M a)) ∧ Below w.heap.size w w' := by
  obtain ⟨FL, hx, lift⟩ := h.lv.ld
  exact ledger_LockedX hx ha
/-- A poll's tally, nothing of what is none. -/
def tallyOf (S : Vs) (r : Int) : Tl := if plHas S.P r then (S.P r.toNat).t else ⟨0, 0, 0⟩
theorem PvAt.vTally (h : PvAt p g vb N S A M now Zn w) (r : Int) : Calls Tryz.prog 24 #[.pointer (some ⟨vb, 0, none⟩), .int .i64 r] w fun e w' => e = .returned (.agg #[.int .i64 (tallyOf S r).a, .int .i64 (tallyOf S r).n, .int .i64 (tallyOf S r).s]) ∧ Below w.heap.size w w' := by
  obtain ⟨F, hx, lift⟩ := h.lv.vo
  obtain ⟨gv, gd, gw, gp, FV, FD, FW, FQ, h1, h2⟩ := hx
  refine (voting_Tally h1.blk r).mono fun e w' ⟨he, hb⟩ => ⟨?_, hb⟩
  rw [he]
  have e : (if (plPtr vb S.P r).isSome then (S.P r.toNat).t else tlyS.zero) = tallyOf S r := by
    unfold tallyOf
    by_cases hh : plHas S.P r
    · obtain ⟨k, -, -, -, hp⟩ := plPtr_has (vb := vb) hh
      rw [hp, if_pos hh]; rfl
    · rw [plPtr_none hh, if_neg hh]; rfl
  rw [e]; rfl
theorem PvAt.vGot (h : PvAt p g vb N S A M now Zn w) {a b : Int} (ha : (Lit.int .i64 a).wf = true) (hb : (Lit.int .i64 b).wf = true) : Calls Tryz.prog 25 #[.pointer (some ⟨vb, 0, none⟩), .int .i64 a, .int .i64 b] w fun e w' => e = .returned (.agg #[.int .i64 (gotS S a b).v, .int .i64 (gotS S a b).c]) ∧ Below w.heap.size w w' := by
  obtain ⟨F, hx, lift⟩ := h.lv.vo
  exact hx.got ha hb
end
theorem VoAt.lower {vb gv gd gw gp N N' : Nat} {P : Nat → Pl} {V : Cls Bal} {D : Cls Dlg} {G Q : Cls Wgt} {FV FD FW FQ : FP} {w : World} (h : VoAt vb gv gd gw gp N P V D G Q FV FD FW FQ w) (hN : N' ≤ N) : VoAt vb gv gd gw gp N' P V D G Q FV FD FW FQ w :=
  ⟨h.blk, h.v, h.d, h.g, h.q, ⟨h.off.vd, h.off.vw, h.off.vq, h.off.dw, h.off.dq, h.off.wq, h.off.b, fun k hk => Nat.le_trans hN (h.off.n k hk), Nat.le_trans hN h.off.nb⟩⟩
/-- A balance's lowest 24 digits. -/
def m24 (x : Int) : Int := bits .and .i64 x 16777215
theorem m24_in (x : Int) : 0 ≤ m24 x ∧ m24 x ≤ 16777215 := by
  have h7 : (BitVec.ofInt 64 x &&& BitVec.ofInt 64 16777215).toNat ≤ 16777215 := by
    rw [BitVec.toNat_and]
    exact Nat.le_trans Nat.and_le_right (by decide)
  have e : m24 x = ((BitVec.ofInt 64 x &&& BitVec.ofInt 64 16777215).toNat : Int) := by
    show IntKind.i64.wrap ((BitVec.ofInt 64 x &&& BitVec.ofInt 64 16777215).toNat : Int) = _
    exact IntWalk.i64_in _ (by omega)
  omega
theorem m24_id {x : Int} (h0 : 0 ≤ x) (h1 : x ≤ 16777215) : m24 x = x := by
  have e : (BitVec.ofInt 64 x).toNat = x.toNat := by rw [BitVec.toNat_ofInt]; omega
  have e2 : (BitVec.ofInt 64 x &&& BitVec.ofInt 64 16777215).toNat = x.toNat := by
    rw [BitVec.toNat_and, e, show (BitVec.ofInt 64 16777215).toNat = 2 ^ 24 - 1 from rfl, Nat.and_two_pow_sub_one_eq_mod]
    exact Nat.mod_eq_of_lt (by omega)
  show IntKind.i64.wrap ((BitVec.ofInt 64 x &&& BitVec.ofInt 64 16777215).toNat : Int) = _
  rw [e2, IntWalk.i64_in _ (by omega)]; omega
theorem newOk_24 {l : List Int} (hl : l.length ≤ 10) (h : ∀ n ∈ l, 0 ≤ n ∧ n ≤ 16777215) : newOk l := by
  have hg : ∀ k, 0 ≤ l.getD k 0 ∧ l.getD k 0 ≤ 16777215 := fun k => by
    by_cases c : k < l.length
    · rw [List.getD_eq_getElem?_getD, List.getElem?_eq_getElem c]; exact h _ (List.getElem_mem _)
    · rw [List.getD_eq_getElem?_getD, List.getElem?_eq_none (by omega)]; simp
  refine ⟨hl, fun k _ => by have := hg k; unfold isBal; omega, ?_⟩
  have key : ∀ n : Nat, sumTo (accL l) n ≤ n * 16777215 := by
    intro n
    induction n with
    | zero => simp [sumTo]
    | succ n ih =>
      rw [sumTo]
      have : both (accL l) n = l.getD n 0 := by unfold both accL; simp only; omega
      rw [this]
      have := hg n
      omega
  have := key 10
  omega
end Go.Proofs.YtlnjcfgihklppaaGreat
end

section
namespace Go.Proofs.YtlnjcfgihklppaaGreat
open Go.RowKit Go.Maps Go.Shelf
set_option linter.unusedVariables false
set_option linter.unusedSimpArgs false

/-- The balances that begin takes. -/
def frees (l : List Int) : List Int := (l.take 10).map m24
theorem frees_snoc {l : List Int} {k : Nat} (h : k < l.length) (h10 : k < 10) : frees (l.take (k + 1)) = frees (l.take k) ++ [m24 (l.getD k 0)] := by
  unfold frees
  rw [List.take_take, List.take_take, Nat.min_eq_right (by omega), Nat.min_eq_right (by omega), List.take_succ_eq_append_getElem h, List.map_append, List.getD_eq_getElem?_getD, List.getElem?_eq_getElem h]
  rfl
theorem LdX.lower {g N N' : Nat} {A : Acc} {M : Cls Int} {FL : FP} {w : World} (h : LdX g N A M FL w) (hN : N' ≤ N) : LdX g N' A M FL w := by
  obtain ⟨gl, F, h1, h2, h3, h4, h5, h6, h7⟩ := h
  exact ⟨gl, F, h1, h2, fun k hk => ⟨Nat.le_trans hN (h3 k hk).1, (h3 k hk).2⟩, Nat.le_trans hN h4, h5, h6, h7⟩
theorem VoX.made {vb gv gd gw gp N : Nat} {FV FD FW FQ : FP} {w : World} (h : VoAt vb gv gd gw gp N (fun _ => Pl.zero) [] [] [] [] FV FD FW FQ w) : VoX vb N Vs.zero (fun k => k = vb ∨ FV k ∨ FD k ∨ FW k ∨ FQ k) w := ⟨gv, gd, gw, gp, FV, FD, FW, FQ, h, fun k => Iff.rfl⟩
set_option maxRecDepth 100000 in
set_option maxHeartbeats 4000000 in
theorem law11_begin (v : Value) (l : List Int) (w : World) (hr : RdI w v l) (hlen : l.length ≤ 1000) : Calls Tryz.prog 29 #[v] w fun e w' => ∃ p g vb Zn, e = .returned (.pointer (some ⟨p, 0, none⟩)) ∧ PvAt p g vb w.heap.size Vs.zero (accL (frees l)) [] 0 Zn w' ∧ Below w.heap.size w w' := by
  obtain ⟨ao, cap, rfl⟩ := hr.lenOf
  obtain ⟨L, hL⟩ : ∃ L, L = l.length := ⟨_, rfl⟩
  rw [← hL] at hr hlen ⊢
  have HR := Lib.hid (And.intro hr hL)
  clear hr hL
  go_enter Tryz.func29, Tryz.ntmps29
  go_wp2_with fail
  go_loopw [3, 4] (fun u i wr => ∃ (k : Nat), k ≤ L ∧ k ≤ 10 ∧ i = .int .i64 k ∧ OwnN w.heap.size u (frees (l.take k)) wr ∧ Below w.heap.size w wr) (fun _ i _ => L - (intOf i).toNat)
  case atStart => exact ⟨0, by omega, by omega, rfl, OwnN.nil _ _, Below.refl _ _⟩
  case round =>
    obtain ⟨k, hk, hk10, rfl, how, hbl⟩ := hrel
    have hnl : (frees (l.take k)).length = k := by unfold frees; rw [List.length_map, List.length_take, List.length_take, ← HR.out.2]; omega
    have HS := Lib.hid (And.intro hnl (And.intro how hbl))
    by_cases hlt : k < L ∧ k < 10
    · obtain ⟨hlt, h10⟩ := hlt
      have hlt' : (k : Int) < L := by omega
      have h10' : (k : Int) < 10 := by omega
      obtain ⟨a, rfl, ca⟩ := (HR.out.1.below hbl).at (show k < l.length by rw [← HR.out.2]; exact hlt)
      obtain ⟨x, hx⟩ : ∃ x, x = l.getD k 0 := ⟨_, rfl⟩
      rw [← hx] at ca
      obtain ⟨z, hz⟩ : ∃ z, bits .and .i64 x 16777215 = z := ⟨_, rfl⟩
      have hsn := frees_snoc (l := l) (k := k) (by rw [← HR.out.2]; exact hlt) h10
      have HZ := Lib.hid (And.intro hsn (And.intro hx hz))
      clear hx hnl how hbl hsn
      go_wp2_with (first
        | (at_builtin; refine wpl_appN (B := w.heap.size) (ub := wr.heap.size) (xs := frees (l.take k)) (y := z) rfl rfl rfl rfl (HS.out.2.1.of (Nat.le_refl _) (fun k hk => Below.heap_alloc _ _ _ (HS.out.2.1.block hk).2)) (by rw [World.cell?, World.alloc_heap_new]; rfl) (by have := HS.out.1; omega) (by have := HS.out.2.2.size; rw [World.size_alloc]; omega) ?_; intro v' w4 hO4 hg4; have HO4 := Lib.hid hO4; have HG4 := Lib.hid hg4; clear hO4 hg4)
        | fail)
      go_roundw
      case rel =>
        refine ⟨k + 1, by omega, by omega, by go_num, ?_, ?_⟩
        · rw [HZ.out.1, ← HZ.out.2.1]
          unfold m24
          rw [HZ.out.2.2]
          exact HO4.out
        · exact Below.grown (HS.out.2.2.alloc HS.out.2.2.size _) HG4.out (by have := HS.out.2.2.size; rw [World.size_alloc]; omega) (fun j hj => (HS.out.2.1.block hj).1)
      case measure => simp [intOf]; omega
    · have hall : frees (l.take k) = frees l := by
        unfold frees
        rw [List.take_take]
        congr 1
        by_cases h1 : k < L
        · have e : k = 10 := by omega
          subst e; rfl
        · have e : k = l.length := by rw [← HR.out.2]; omega
          rw [e, List.take_of_length_le (by omega), List.take_of_length_le (by rw [← HR.out.2]; omega)]
      have hin : ∀ n ∈ frees l, 0 ≤ n ∧ n ≤ 16777215 := fun n hn => by
        obtain ⟨x, -, rfl⟩ := List.mem_map.1 hn
        exact m24_in x
      rw [hall] at hnl how HS
      have hok := newOk_24 (l := frees l) (by omega) hin
      have hrd := how.readsI
      have HK := Lib.hid (And.intro hok (And.intro hrd (show (frees l).length ≤ maxLen by unfold maxLen; omega)))
      have HK2 := Lib.hid (show (frees l).length ≤ 10 by omega)
      have hgd : ((k : Int) < L) = True ∧ ((k : Int) < 10) = False ∨ ((k : Int) < L) = False := by
        by_cases h1 : k < L
        · exact .inl ⟨by simp; omega, by simp; omega⟩
        · exact .inr (by simp; omega)
      clear hnl how hbl hok hrd hall hin hlt hk hk10
      rcases hgd with ⟨g1, g2⟩ | g1
      all_goals
        go_wp2_with (first
          | (go_at_call 13; refine (ledger_New_ok HK.out.2.1 HK.out.2.2 HK.out.1).mono ?_; rintro e w1 ⟨g, gl, rfl, hl, hb⟩; have H1 := Lib.hid (And.intro hl hb); clear hl hb)
          | (go_at_call 70; refine (ref6_New _ (frees l) w1 (HK.out.2.1.below H1.out.2) HK2.out).mono ?_; rintro e w2 ⟨px, c, rfl, hb⟩; have H2 := Lib.hid hb; clear hb)
          | (go_at_call 71; refine (voting_NewV w2).mono ?_; rintro e w3 ⟨vb, gv, gd, gw, gp, FV, FD, FW, FQ, rfl, hv, hb⟩; have H3 := Lib.hid (And.intro hv hb); clear hv hb)
          | (go_at_call 72; refine (ref11_New w3).mono ?_; rintro e w4 ⟨py, rfl, hb⟩; have H4 := Lib.hid hb; clear hb)
          | fail)
        have s1 := H1.out.2.size
        have s0 := HS.out.2.2.size
        have s2 := H2.out.size
        have s3 := H3.out.2.size
        have s4 := H4.out.size
        obtain ⟨FL, hld, -⟩ := LdX.of H1.out.1
        have hld1 := hld.lower s0
        have hvo3 := VoX.made (H3.out.1.lower (N' := w.heap.size) (by omega))
        have b5 : Below w4.heap.size w4 (w4.alloc (.cells #[.pointer (some ⟨g, 0, none⟩), .pointer (some ⟨vb, 0, none⟩), .pointer px, .pointer py, .int .i64 0] 60)) := (Below.refl _ w4).alloc (Nat.le_refl _) _
        have b45 := H4.out.trans (b5.mono s4)
        have b15 := H2.out.trans ((H3.out.2.trans (b45.mono s3)).mono s2)
        have hlt : ∀ k, (k = vb ∨ FV k ∨ FD k ∨ FW k ∨ FQ k) → w2.heap.size ≤ k ∧ k < w3.heap.size := fun k hk => ⟨by
          rcases hk with e | e
          · rw [e]; exact H3.out.1.off.nb
          · exact H3.out.1.off.n k e, H3.out.1.lt hk⟩
        have hlv : LvAt g vb w.heap.size Vs.zero (accL (frees l)) [] (fun k => (k = vb ∨ FV k ∨ FD k ∨ FW k ∨ FQ k) ∨ FL k) (w4.alloc (.cells #[.pointer (some ⟨g, 0, none⟩), .pointer (some ⟨vb, 0, none⟩), .pointer px, .pointer py, .int .i64 0] 60)) :=
          ⟨_, FL, hvo3.below b45, hld1.below b15, fun k hk hf => by have := hlt k hk; have := hld.lt hf; omega, fun k => Iff.rfl⟩
        refine bodyPost_ret (v := .pointer (some ⟨w4.heap.size, 0, none⟩)) (by simp [results, Tryz.results29, go_sem]) rfl ⟨w4.heap.size, g, vb, _, rfl, ⟨hlv, VInv.zero, fun x hx => (List.not_mem_nil hx).elim, ⟨px, py, World.alloc_heap_new _ _⟩, ?_, by omega⟩, ?_⟩
        · rintro (hk | hk)
          · have := hlt _ hk; omega
          · have := hld.lt hk; omega
        · exact HS.out.2.2.trans ((H1.out.2.trans (b15.mono s1)).mono s0)
end Go.Proofs.YtlnjcfgihklppaaGreat
end

section
namespace Go.Proofs.YtlnjcfgihklppaaGreat
open Go.RowKit Go.Maps Go.Shelf
set_option linter.unusedVariables false
set_option linter.unusedSimpArgs false

/-- A pair in memory, made since. -/
def Pv1 (p g vb N : Nat) (S : Vs) (A : Acc) (M : Cls Int) (w0 w : World) : Prop := ∃ Zn, PvAt p g vb N S A M 0 Zn w ∧ Below N w0 w
section
variable {p g vb N : Nat} {S S' : Vs} {A A' : Acc} {M M' : Cls Int} {w0 w w' : World}
theorem Pv1.below (h : Pv1 p g vb N S A M w0 w) (hb : Below w.heap.size w w') : Pv1 p g vb N S A M w0 w' := by
  obtain ⟨Zn, h1, h2⟩ := h
  exact ⟨Zn, h1.below hb, h2.trans (hb.mono h1.lv.size)⟩
theorem Pv1.drew (h : Pv1 p g vb N S A M w0 w) : Pv1 p g vb N S A M w0 w.drew := h.below (Below.refl _ w).drew
theorem Pv1.cells (h : Pv1 p g vb N S A M w0 w) : w.cell? ⟨p, 0, none⟩ = some (.pointer (some ⟨g, 0, none⟩)) ∧ w.cell? ⟨p, 1, none⟩ = some (.pointer (some ⟨vb, 0, none⟩)) ∧ w.cell? ⟨p, 4, none⟩ = some (.int .i64 0) := by
  obtain ⟨Zn, h1, h2⟩ := h
  exact h1.cells
theorem Pv1.dcells (h : Pv1 p g vb N S A M w0 w) : w.drew.cell? ⟨p, 0, none⟩ = some (.pointer (some ⟨g, 0, none⟩)) ∧ w.drew.cell? ⟨p, 1, none⟩ = some (.pointer (some ⟨vb, 0, none⟩)) ∧ w.drew.cell? ⟨p, 4, none⟩ = some (.int .i64 0) := h.drew.cells
theorem Pv1.bl (h : Pv1 p g vb N S A M w0 w) : Below N w0 w := by obtain ⟨Zn, h1, h2⟩ := h; exact h2
theorem Pv1.vOpen (h : Pv1 p g vb N S A M w0 w) (r t : Int) : Calls Tryz.prog 17 #[.pointer (some ⟨vb, 0, none⟩), .int .i64 r, .int .i64 t] w fun e w' => e = .returned (.int .i64 (openE S.P r t)) ∧ Pv1 p g vb N (openS S r t) A M w0 w' := by
  obtain ⟨Zn, h1, h2⟩ := h
  refine (h1.vOpen r t).mono ?_
  rintro e w' ⟨he, hto⟩
  have hb := PvTo.below h1 hto
  obtain ⟨Z', k1, -, -⟩ := hto
  exact ⟨he, Z', k1, h2.trans hb⟩
theorem Pv1.vClose (h : Pv1 p g vb N S A M w0 w) (r st en : Int) : Calls Tryz.prog 18 #[.pointer (some ⟨vb, 0, none⟩), .int .i64 r, .int .i64 st, .int .i64 en] w fun e w' => e = .returned (.int .i64 (closeE S.P r st)) ∧ Pv1 p g vb N (closeS S r st en) A M w0 w' := by
  obtain ⟨Zn, h1, h2⟩ := h
  refine (h1.vClose r st en).mono ?_
  rintro e w' ⟨he, hto⟩
  have hb := PvTo.below h1 hto
  obtain ⟨Z', k1, -, -⟩ := hto
  exact ⟨he, Z', k1, h2.trans hb⟩
theorem Pv1.vUnvote (h : Pv1 p g vb N S A M w0 w) {a r : Int} (ha : (Lit.int .i64 a).wf = true) (hr : (Lit.int .i64 r).wf = true) (nw : Int) : Calls Tryz.prog 20 #[.pointer (some ⟨vb, 0, none⟩), .int .i64 a, .int .i64 r, .int .i64 nw] w fun e w' => e = .returned (.int .i64 (unvoteE S a r)) ∧ Pv1 p g vb N (unvoteS S a r nw) A M w0 w' := by
  obtain ⟨Zn, h1, h2⟩ := h
  refine (h1.vUnvote ha hr nw).mono ?_
  rintro e w' ⟨he, hto⟩
  have hb := PvTo.below h1 hto
  obtain ⟨Z', k1, -, -⟩ := hto
  exact ⟨he, Z', k1, h2.trans hb⟩
theorem Pv1.vUndelegate (h : Pv1 p g vb N S A M w0 w) {a t : Int} (ha : (Lit.int .i64 a).wf = true) (ht : (Lit.int .i64 t).wf = true) (nw : Int) : Calls Tryz.prog 22 #[.pointer (some ⟨vb, 0, none⟩), .int .i64 a, .int .i64 t, .int .i64 nw] w fun e w' => e = .returned (.int .i64 (undE S a t)) ∧ Pv1 p g vb N (undS S a t nw) A M w0 w' := by
  obtain ⟨Zn, h1, h2⟩ := h
  refine (h1.vUndelegate ha ht nw).mono ?_
  rintro e w' ⟨he, hto⟩
  have hb := PvTo.below h1 hto
  obtain ⟨Z', k1, -, -⟩ := hto
  exact ⟨he, Z', k1, h2.trans hb⟩
theorem Pv1.vVote (h : Pv1 p g vb N S A M w0 w) {a r : Int} (ha : (Lit.int .i64 a).wf = true) (hr : (Lit.int .i64 r).wf = true) (x : Bal) : Calls Tryz.prog 19 #[.pointer (some ⟨vb, 0, none⟩), .pointer (some ⟨g, 0, none⟩), .int .i64 a, .int .i64 r, .agg #[.int .i64 x.k, .bool x.aye, .int .i64 x.l, .int .i64 x.a, .int .i64 x.n, .int .i64 x.s]] w fun e w' => e = .returned (.int .i64 (voteE S A a r x)) ∧ Pv1 p g vb N (voteS S A a r x) A (voteM S A M a r x) w0 w' := by
  obtain ⟨Zn, h1, h2⟩ := h
  refine (h1.vVote ha hr x).mono ?_
  rintro e w' ⟨he, hto⟩
  have hb := PvTo.below h1 hto
  obtain ⟨Z', k1, -, -⟩ := hto
  exact ⟨he, Z', k1, h2.trans hb⟩
theorem Pv1.vDelegate (h : Pv1 p g vb N S A M w0 w) {a t who : Int} (ha : (Lit.int .i64 a).wf = true) (ht : (Lit.int .i64 t).wf = true) (l n : Int) : Calls Tryz.prog 21 #[.pointer (some ⟨vb, 0, none⟩), .pointer (some ⟨g, 0, none⟩), .int .i64 a, .int .i64 t, .int .i64 who, .int .i64 l, .int .i64 n] w fun e w' => e = .returned (.int .i64 (delE S A a t who l n)) ∧ Pv1 p g vb N (delS S A a t who l n) A (delM S A M a t who l n) w0 w' := by
  obtain ⟨Zn, h1, h2⟩ := h
  refine (h1.vDelegate ha ht l n).mono ?_
  rintro e w' ⟨he, hto⟩
  have hb := PvTo.below h1 hto
  obtain ⟨Z', k1, -, -⟩ := hto
  exact ⟨he, Z', k1, h2.trans hb⟩
theorem Pv1.vUnlock (h : Pv1 p g vb N S A M w0 w) {a t : Int} (ha : (Lit.int .i64 a).wf = true) (ht : (Lit.int .i64 t).wf = true) (nw : Int) : Calls Tryz.prog 23 #[.pointer (some ⟨vb, 0, none⟩), .pointer (some ⟨g, 0, none⟩), .int .i64 a, .int .i64 t, .int .i64 nw] w fun e w' => e = .returned (.int .i64 (unlE a t)) ∧ Pv1 p g vb N (unlS S a t nw) A (unlM S M a t nw) w0 w' := by
  obtain ⟨Zn, h1, h2⟩ := h
  refine (h1.vUnlock ha ht nw).mono ?_
  rintro e w' ⟨he, hto⟩
  have hb := PvTo.below h1 hto
  obtain ⟨Z', k1, -, -⟩ := hto
  exact ⟨he, Z', k1, h2.trans hb⟩
theorem Pv1.vTransfer (h : Pv1 p g vb N S A M w0 w) {a : Int} (ha : (Lit.int .i64 a).wf = true) (b n : Int) : Calls Tryz.prog 34 #[.pointer (some ⟨g, 0, none⟩), .int .i64 a, .int .i64 b, .int .i64 n] w fun e w' => e = .returned (.int .i64 (transE A M a b n)) ∧ Pv1 p g vb N S (transA A M a b n) M w0 w' := by
  obtain ⟨Zn, h1, h2⟩ := h
  refine (h1.vTransfer ha b n).mono ?_
  rintro e w' ⟨he, hto⟩
  have hb := PvTo.below h1 hto
  obtain ⟨Z', k1, -, -⟩ := hto
  exact ⟨he, Z', k1, h2.trans hb⟩
theorem Pv1.vTally (h : Pv1 p g vb N S A M w0 w) (r : Int) : Calls Tryz.prog 24 #[.pointer (some ⟨vb, 0, none⟩), .int .i64 r] w fun e w' => e = .returned (.agg #[.int .i64 (tallyOf S r).a, .int .i64 (tallyOf S r).n, .int .i64 (tallyOf S r).s]) ∧ Pv1 p g vb N S A M w0 w' := by
  have h' := h
  obtain ⟨Zn, h1, h2⟩ := h
  exact (h1.vTally r).mono fun e w' ⟨he, hb⟩ => ⟨he, h'.below hb⟩
theorem Pv1.vLocked (h : Pv1 p g vb N S A M w0 w) {a : Int} (ha : (Lit.int .i64 a).wf = true) : Calls Tryz.prog 30 #[.pointer (some ⟨g, 0, none⟩), .int .i64 a] w fun e w' => e = .returned (.int .i64 (lockedOf M a)) ∧ Pv1 p g vb N S A M w0 w' := by
  have h' := h
  obtain ⟨Zn, h1, h2⟩ := h
  exact (h1.vLocked ha).mono fun e w' ⟨he, hb⟩ => ⟨he, h'.below hb⟩
theorem Pv1.vGot (h : Pv1 p g vb N S A M w0 w) {a b : Int} (ha : (Lit.int .i64 a).wf = true) (hb : (Lit.int .i64 b).wf = true) : Calls Tryz.prog 25 #[.pointer (some ⟨vb, 0, none⟩), .int .i64 a, .int .i64 b] w fun e w' => e = .returned (.agg #[.int .i64 (gotS S a b).v, .int .i64 (gotS S a b).c]) ∧ Pv1 p g vb N S A M w0 w' := by
  have h' := h
  obtain ⟨Zn, h1, h2⟩ := h
  exact (h1.vGot ha hb).mono fun e w' ⟨he, hb⟩ => ⟨he, h'.below hb⟩
end
theorem begin1 (v : Value) (l : List Int) (w : World) (hr : RdI w v l) (hlen : l.length ≤ 10) (hl : ∀ x ∈ l, 0 ≤ x ∧ x ≤ 16777215) : Calls Tryz.prog 29 #[v] w fun e w' => ∃ p g vb, e = .returned (.pointer (some ⟨p, 0, none⟩)) ∧ Pv1 p g vb w.heap.size Vs.zero (accL l) [] w w' := by
  refine (law11_begin v l w hr (by omega)).mono ?_
  rintro e w' ⟨p, g, vb, Zn, he, hp, hb⟩
  have e1 : frees l = l := by
    unfold frees
    rw [List.take_of_length_le hlen]
    exact (List.map_congr_left (fun x hx => m24_id (hl x hx).1 (hl x hx).2)).trans (List.map_id _)
  rw [e1] at hp
  exact ⟨p, g, vb, he, Zn, hp, hb⟩
/-- What known does. -/
def kA : Acc := accL [0, 10, 10]
def kS1 : Vs := openS Vs.zero 0 1
def kS2 : Vs := delS kS1 kA 2 1 1 1 10
def kX : Bal := ⟨1, true, 2, 10, 0, 0⟩
def kS3 : Vs := voteS kS2 kA 1 0 kX
theorem k_ok : openE Vs.zero.P 0 1 = 0 ∧ delE kS1 kA 2 1 1 1 10 = 0 ∧ voteE kS2 kA 1 0 kX = 0 ∧ tallyOf kS3 0 = ⟨30, 0, 20⟩ := by decide +kernel
set_option maxRecDepth 100000 in
set_option maxHeartbeats 4000000 in
theorem law11_known (w : World) : Calls Tryz.prog 26 #[] w fun e w' => e = .returned (.bool true) ∧ Below w.heap.size w w' := by
  obtain ⟨w1, hw1⟩ : ∃ w1, w1 = w.alloc (.cells #[.int .i64 0, .int .i64 10, .int .i64 10] 3) := ⟨_, rfl⟩
  have hrd : RdI w1 (.slice (some ⟨w.heap.size, 0, none⟩) 3 3) [0, 10, 10] := by rw [hw1]; exact RdI.lit w 3 [0, 10, 10] 3 rfl
  have hb1 : Below w.heap.size w w1 := by rw [hw1]; exact (Below.refl _ w).alloc (Nat.le_refl _) _
  have hbg := begin1 _ _ w1 hrd (by decide) (by decide)
  have HB := Lib.hid hbg
  have H1 := Lib.hid hb1
  have HW := Lib.hid hw1
  obtain ⟨e1, e2, e3, e4⟩ := k_ok
  have HE := Lib.hid (And.intro e1 (And.intro e2 (And.intro e3 e4)))
  clear hrd hb1 hbg hw1 e1 e2 e3 e4
  go_enter Tryz.func26, Tryz.ntmps26
  go_upto_region 4 with (first
    | (go_at_call 29; rw [← HW.out]; refine HB.out.mono ?_; rintro e w2 ⟨p, g, vb, rfl, hp⟩; have Q2 := Lib.hid hp; clear hp)
    | fail)
  obtain ⟨c0, c1, -⟩ := Q2.out.cells
  go_upto_region 5 with (first
    | (go_at_call 17; refine (Q2.out.vOpen 0 1).mono ?_; rw [HE.out.1]; rintro e w3 ⟨rfl, hp⟩; have Q3 := Lib.hid (show Pv1 p g vb w1.heap.size kS1 kA [] w1 w3 from hp); clear hp)
    | fail)
  obtain ⟨d0, d1, -⟩ := Q3.out.dcells
  go_still_tail 8, (by kernel_rfl)
  change wpList _ _ _ _ _ w3.drew
  go_upto_region 6 with (first
    | (go_at_call 21; refine (Q3.out.drew.vDelegate (a := 2) (t := 1) (who := 1) (by decide) (by decide) 1 10).mono ?_; rw [HE.out.2.1]; rintro e w4 ⟨rfl, hp⟩; have Q4 := Lib.hid (show Pv1 p g vb w1.heap.size kS2 kA (delM kS1 kA [] 2 1 1 1 10) w1 w4 from hp); clear hp)
    | fail)
  obtain ⟨f0, f1, -⟩ := Q4.out.dcells
  go_still_tail 9, (by kernel_rfl)
  change wpList _ _ _ _ _ w4.drew
  go_upto_region 7 with (first
    | (go_at_call 19; refine (Q4.out.drew.vVote (a := 1) (r := 0) (by decide) (by decide) kX).mono ?_; rw [HE.out.2.2.1]; rintro e w5 ⟨rfl, hp⟩; have Q5 := Lib.hid (show Pv1 p g vb w1.heap.size kS3 kA (voteM kS2 kA (delM kS1 kA [] 2 1 1 1 10) 1 0 kX) w1 w5 from hp); clear hp)
    | fail)
  obtain ⟨g0, g1, -⟩ := Q5.out.cells
  go_wp2_with (first
    | (go_at_call 24; refine (Q5.out.vTally 0).mono ?_; rw [HE.out.2.2.2]; rintro e w6 ⟨rfl, hp⟩; have Q6 := Lib.hid hp; clear hp)
    | fail)
  exact bodyPost_ret (v := .bool true) (by simp [results, Tryz.results26, go_sem]) rfl ⟨rfl, H1.out.trans (Q6.out.bl.mono H1.out.size)⟩
end Go.Proofs.YtlnjcfgihklppaaGreat
end

section
namespace Go.Proofs.YtlnjcfgihklppaaGreat
open Go.RowKit Go.Maps Go.Shelf
set_option linter.unusedVariables false
set_option linter.unusedSimpArgs false

section
variable {S : Vs} {A : Acc} {M : Cls Int} {a r t who l n : Int} {x : Bal}
theorem voteE_0 (h1 : isAcc a) (h2 : balOk x = true) (h3 : plHas S.P r) (h4 : (S.P r.toNat).st = 1) (h5 : cget S.D a (S.P r.toNat).tr = none) (h6 : capB x ≤ (A a.toNat).1) (h7 : (ballots S a (S.P r.toNat).tr).length < 6) : voteE S A a r x = 0 := by
  unfold voteE
  rw [if_neg (by simp [h1, h2]), if_neg (by simpa using h3), if_neg (by simp [h4]), if_neg (by simp [h5]), if_neg (by omega), if_neg (by omega)]
theorem voteE_6 (h1 : isAcc a) (h2 : balOk x = true) (h3 : plHas S.P r) (h4 : (S.P r.toNat).st = 1) (h5 : cget S.D a (S.P r.toNat).tr = none) (h6 : (A a.toNat).1 < capB x) : voteE S A a r x = 6 := by
  unfold voteE
  rw [if_neg (by simp [h1, h2]), if_neg (by simpa using h3), if_neg (by simp [h4]), if_neg (by simp [h5]), if_pos h6]
theorem voteS_0 (h : voteE S A a r x = 0) : voteS S A a r x = { S with P := putP S.P r.toNat ((S.P r.toNat).withT (voteT S a r x)), V := cput S.V a r x } := by unfold voteS; rw [if_pos h]
theorem voteM_0 (h : voteE S A a r x = 0) : voteM S A M a r x = raiseM M a (S.P r.toNat).tr (capB x) := by unfold voteM; rw [if_pos h]
theorem voteS_no (h : voteE S A a r x ≠ 0) : voteS S A a r x = S := by unfold voteS; rw [if_neg h]
theorem voteM_no (h : voteE S A a r x ≠ 0) : voteM S A M a r x = M := by unfold voteM; rw [if_neg h]
theorem delE_0 (h1 : isAcc a) (h2 : 0 ≤ t ∧ t < 4) (h3 : isAcc who) (h4 : who ≠ a) (h5 : 0 ≤ l ∧ l ≤ 6) (h6 : isBal n) (h7 : cget S.D a t = none) (h8 : ballots S a t = []) (h9 : n ≤ (A a.toNat).1) : delE S A a t who l n = 0 := by
  unfold delE
  rw [if_neg (by simp only [h1, h2, h3, h4, h5, h6]; simp), if_neg (by simp [h7]), if_neg (by simp [h8]), if_neg (by omega)]
theorem delE_6 (h1 : isAcc a) (h2 : 0 ≤ t ∧ t < 4) (h3 : isAcc who) (h4 : who ≠ a) (h5 : 0 ≤ l ∧ l ≤ 6) (h6 : isBal n) (h7 : cget S.D a t = none) (h8 : ballots S a t = []) (h9 : (A a.toNat).1 < n) : delE S A a t who l n = 6 := by
  unfold delE
  rw [if_neg (by simp only [h1, h2, h3, h4, h5, h6]; simp), if_neg (by simp [h7]), if_neg (by simp [h8]), if_pos h9]
theorem delS_0 (h : delE S A a t who l n = 0) : delS S A a t who l n = lendS { S with D := cput S.D a t ⟨who, l, n⟩ } who t (votesI n l) n := by unfold delS; rw [if_pos h]
theorem delM_0 (h : delE S A a t who l n = 0) : delM S A M a t who l n = raiseM M a t n := by unfold delM; rw [if_pos h]
theorem delS_no (h : delE S A a t who l n ≠ 0) : delS S A a t who l n = S := by unfold delS; rw [if_neg h]
theorem delM_no (h : delE S A a t who l n ≠ 0) : delM S A M a t who l n = M := by unfold delM; rw [if_neg h]
end
/-- A standard vote that may be. -/
theorem balOk_std {y : Bool} {l a : Int} (hl : 0 ≤ l ∧ l ≤ 6) (ha : 0 ≤ a ∧ a ≤ 1073741824) : balOk ⟨1, y, l, a, 0, 0⟩ = true := by
  unfold balOk
  simp [voteB, shapedB, withinB, hl, ha]
theorem w64_in {n : Int} (h0 : -9223372036854775808 ≤ n) (h1 : n ≤ 9223372036854775807) : wrap64 n = n := IntWalk.wrap64_in n ⟨h0, h1⟩
theorem gain_aye {l a v c : Int} (h1 : -1152921504606846976 ≤ votesI a l + v ∧ votesI a l + v ≤ 1152921504606846976) (h2 : -1152921504606846976 ≤ a + c ∧ a + c ≤ 1152921504606846976) : gainW ⟨1, true, l, a, 0, 0⟩ ⟨v, c⟩ = ⟨votesI a l + v, 0, a + c⟩ := by
  unfold gainW
  rw [if_pos rfl, if_pos rfl, w64_in (by simp only; omega) (by simp only; omega), w64_in (by simp only; omega) (by simp only; omega)]
theorem gain_nay {l a v c : Int} (h1 : -1152921504606846976 ≤ votesI a l + v ∧ votesI a l + v ≤ 1152921504606846976) : gainW ⟨1, false, l, a, 0, 0⟩ ⟨v, c⟩ = ⟨0, votesI a l + v, 0⟩ := by
  unfold gainW
  rw [if_pos rfl, if_neg (by simp), w64_in (by simp only; omega) (by simp only; omega)]
theorem gain_other {k l a n s : Int} {y : Bool} (g : Wgt) (h : k ≠ 1) : gainW ⟨k, y, l, a, n, s⟩ g = ⟨a / 10, n / 10, a + s⟩ := by
  unfold gainW
  rw [if_neg h]
  rfl
theorem add_in {a n s a' n' s' : Int} (h1 : -9223372036854775808 ≤ a + a' ∧ a + a' ≤ 9223372036854775807) (h2 : -9223372036854775808 ≤ n + n' ∧ n + n' ≤ 9223372036854775807) (h3 : -9223372036854775808 ≤ s + s' ∧ s + s' ≤ 9223372036854775807) : (⟨a, n, s⟩ : Tl).add ⟨a', n', s'⟩ = ⟨a + a', n + n', s + s'⟩ := by
  unfold Tl.add
  rw [w64_in (by simp only; omega) (by simp only; omega), w64_in (by simp only; omega) (by simp only; omega), w64_in (by simp only; omega) (by simp only; omega)]
theorem sub_in {a n s a' n' s' : Int} (b1 : -1152921504606846976 ≤ a' ∧ a' ≤ 1152921504606846976) (b2 : -1152921504606846976 ≤ n' ∧ n' ≤ 1152921504606846976) (b3 : -1152921504606846976 ≤ s' ∧ s' ≤ 1152921504606846976) (h1 : -9223372036854775808 ≤ a - a' ∧ a - a' ≤ 9223372036854775807) (h2 : -9223372036854775808 ≤ n - n' ∧ n - n' ≤ 9223372036854775807) (h3 : -9223372036854775808 ≤ s - s' ∧ s - s' ≤ 9223372036854775807) : (⟨a, n, s⟩ : Tl).sub ⟨a', n', s'⟩ = ⟨a - a', n - n', s - s'⟩ := by
  unfold Tl.sub Tl.neg
  rw [w64_in (n := -a') (by omega) (by omega), w64_in (n := -n') (by omega) (by omega), w64_in (n := -s') (by omega) (by omega), add_in (by omega) (by omega) (by omega)]
  rfl
theorem voteT_new {S : Vs} {a r : Int} {x : Bal} (h : cget S.V a r = none) : voteT S a r x = ((S.P r.toNat).t).add (gainW x (gotS S a (S.P r.toNat).tr)) := by unfold voteT voteT0; rw [h]
theorem voteT_old {S : Vs} {a r : Int} {x y : Bal} (h : cget S.V a r = some y) : voteT S a r x = ((S.P r.toNat).t.sub (gainW y (gotS S a (S.P r.toNat).tr))).add (gainW x (gotS S a (S.P r.toNat).tr)) := by unfold voteT voteT0; rw [h]
theorem raise_nil {a t n : Int} (h1 : isAcc a) (h2 : 0 < n ∧ n ≤ 1073741824) : raiseM [] a t n = [((a, t), n)] := by
  unfold raiseM lockM
  rw [if_neg (by simp [rowOf]), if_neg (by simpa using h1), if_neg (by unfold isBal; omega)]
  rfl
theorem raise_zero {a t : Int} : raiseM [] a t 0 = [] := by
  unfold raiseM lockM
  rw [if_neg (by simp [rowOf])]
  split
  · rfl
  · rw [if_pos (.inl rfl)]; rfl
theorem lendG_in {S : Vs} {who t dv dc : Int} {g : Wgt} (h : (cget S.G who t).getD ⟨0, 0⟩ = g) (h1 : -9223372036854775808 ≤ g.v + dv ∧ g.v + dv ≤ 9223372036854775807) (h2 : -9223372036854775808 ≤ g.c + dc ∧ g.c + dc ≤ 9223372036854775807) : lendG S who t dv dc = ⟨g.v + dv, g.c + dc⟩ := by
  unfold lendG
  rw [h, w64_in h1.1 h1.2, w64_in h2.1 h2.2]
theorem lendS_none {S : Vs} {who t dv dc : Int} {g' : Wgt} (h : ballots S who t = []) (h2 : lendG S who t dv dc = g') : lendS S who t dv dc = { S with G := cput S.G who t g' } := by
  unfold lendS
  rw [h, h2]; rfl
theorem lendS_one {S : Vs} {who t dv dc r : Int} {y : Bal} {g g' : Wgt} {tt : Tl} (h0 : (cget S.G who t).getD ⟨0, 0⟩ = g) (h : ballots S who t = [(r, y)]) (h1 : (S.P r.toNat).st = 1) (h2 : lendG S who t dv dc = g') (h3 : relend y g g' (S.P r.toNat).t = tt) : lendS S who t dv dc = { S with G := cput S.G who t g', P := putP S.P r.toNat ((S.P r.toNat).withT tt) } := by
  unfold lendS
  rw [h, h2, h0, ← h3]
  unfold lendP
  simp only [List.foldl_cons, List.foldl_nil]
  unfold lendP1
  rw [if_pos h1]
end Go.Proofs.YtlnjcfgihklppaaGreat
end
