/-
  The law's begin: a ledger of some balances.
-/
import Derived.Test.YtjmaeiphjjjdoaaLd9
import Derived.Test.YtjmaeiphjjjdoaaOwnN
namespace Go.Proofs.Ytjmaeiphjjjdoaa
open Go.RowKit Go.Maps Go.Shelf
set_option linter.unusedVariables false
set_option linter.unusedSimpArgs false

section
variable {w : World} {ops : Array Oper} {rest : List Oper} {o : Oper} {a : Act} {Q : Exit → Act → World → Prop}
theorem wpl_appN {s x : Operand} {B ub : Nat} {v : Value} {xs : List Int} {y : Int} (hgd : o.guard = none)
    (ho : o.op = .call { callee := .builtin .append, args := #[s, x], argTypes := #[22, 22] }) (hs : a.eval s = v) (hx : a.eval x = .slice (some ⟨ub, 0, none⟩) 1 1)
    (hown : OwnN B v xs w) (hc : w.cell? ⟨ub, 0, none⟩ = some (.int .i64 y)) (hlen : xs.length ≤ 100000) (hB : B ≤ w.heap.size)
    (h : ∀ v' w', OwnN B v' (xs ++ [y]) w' → w.grownBy w' v.ownBlock → wpList Try.prog ops Q rest (a.put o.dst v') w') : wpList Try.prog ops Q (o :: rest) a w := by
  obtain ⟨i0, hi, hz⟩ := Option.map_eq_some_iff.1 infoI
  simp only [Prod.mk.injEq] at hz
  obtain ⟨hz0, hz1, hz2⟩ := hz
  refine wpList_append_own _ hgd s x _ ho B 3 i0 (.int .i64 0) 1 8 Try.underlying22 hi hz0 hz1 hz2 rfl (by decide) v _ _ hs hown ⟨ub, 0, none⟩ 1 1 [.int .i64 y] hx (by simp)
    (fun j u hj => by
      cases j with
      | zero => simp only [List.getElem?_cons_zero, Option.some.injEq] at hj; subst hj; rw [Addr.add_mid]; exact hc
      | succ j => simp at hj) (by simp [Value.oneCell']) (by unfold maxLen; omega) (by omega) hB ?_
  intro v' w' h1 h2 h3
  refine h v' w' ?_ h2
  unfold OwnN
  rw [List.length_append]
  simpa [Is] using h1
end
theorem OwnN.readsI {B : Nat} {v : Value} {l : List Int} {w : World} (h : OwnN B v l w) : RdI w v l := by
  have h0 := h
  obtain ⟨hl, h2⟩ := h
  rcases h2 with ⟨rfl, e⟩ | ⟨g, cap, cur, rfl, _, hg, hn, _, hs, ht⟩
  · exact .inl ⟨rfl, List.eq_nil_of_length_eq_zero e⟩
  · refine .inr ⟨⟨g, 0, none⟩, cap, rfl, hn, fun i hi => ?_⟩
    have e : (⟨g, 0, none⟩ : Addr).add i = ⟨g, i, none⟩ := by rw [Addr.add_mid]; simp
    rw [e, World.cell?, hg]
    have h1 : (Is l)[i]? = some (.int .i64 (l.getD i 0)) := by simp [Is, hi, List.getD_eq_getElem?_getD]
    rw [← ht, List.getElem?_take_of_lt (by omega)] at h1
    simpa using h1
theorem bits_fff (x : Int) : ∃ z : Int, bits .and .i64 x 1048575 = z ∧ 0 ≤ z ∧ z ≤ 1048575 := by
  refine ⟨(BitVec.ofInt 64 x &&& BitVec.ofInt 64 1048575).toNat, ?_, ?_, ?_⟩
  · have h7 : (BitVec.ofInt 64 x &&& BitVec.ofInt 64 1048575).toNat ≤ 1048575 := by
      rw [BitVec.toNat_and]
      exact Nat.le_trans Nat.and_le_right (by decide)
    show IntKind.i64.wrap ((BitVec.ofInt 64 x &&& BitVec.ofInt 64 1048575).toNat : Int) = _
    exact IntWalk.i64_in _ (by omega)
  · omega
  · have h7 : (BitVec.ofInt 64 x &&& BitVec.ofInt 64 1048575).toNat ≤ 1048575 := by
      rw [BitVec.toNat_and]
      exact Nat.le_trans Nat.and_le_right (by decide)
    omega
theorem newOk_small {l : List Int} (hl : l.length ≤ 10) (h : ∀ n ∈ l, 0 ≤ n ∧ n ≤ 1048575) : newOk l := by
  have hg : ∀ k, 0 ≤ l.getD k 0 ∧ l.getD k 0 ≤ 1048575 := fun k => by
    by_cases c : k < l.length
    · rw [List.getD_eq_getElem?_getD, List.getElem?_eq_getElem c]; exact h _ (List.getElem_mem _)
    · rw [List.getD_eq_getElem?_getD, List.getElem?_eq_none (by omega)]; simp
  refine ⟨hl, fun k _ => by have := hg k; unfold isBal; omega, ?_⟩
  have key : ∀ n : Nat, sumTo (accL l) n ≤ n * 1048575 := by
    intro n
    induction n with
    | zero => simp [sumTo]
    | succ n ih =>
      rw [sumTo]
      have : both (accL l) n = l.getD n 0 := by unfold both accL; simp only; omega
      rw [this]
      have := hg n
      omega
  have := key 10
  omega
set_option maxRecDepth 100000 in
set_option maxHeartbeats 4000000 in
theorem law_begin (v : Value) (l : List Int) (w : World) (hr : RdI w v l) (hlen : l.length ≤ 10) : Calls Try.prog 20 #[v] w fun e w' => ∃ g gl A, e = .returned (.pointer (some ⟨g, 0, none⟩)) ∧ LdAt w.heap.size g gl A [] w' ∧ Below w.heap.size w w' := by
  obtain ⟨ao, cap, rfl⟩ := hr.lenOf
  obtain ⟨L, hL⟩ : ∃ L, L = l.length := ⟨_, rfl⟩
  rw [← hL] at hr hlen ⊢
  have HR := Lib.hid (And.intro hr hL)
  clear hr hL
  go_enter Try.func20, Try.ntmps20
  have c0 : ¬ (10 : Int) < (L : Int) := by omega
  go_wp2_with fail
  go_loopw [3, 4] (fun u i wr => ∃ (k : Nat) (ns : List Int), k ≤ L ∧ i = .int .i64 k ∧ ns.length = k ∧ (∀ n ∈ ns, 0 ≤ n ∧ n ≤ 1048575) ∧ OwnN w.heap.size u ns wr ∧ Below w.heap.size w wr) (fun _ i _ => L - (intOf i).toNat)
  case atStart => exact ⟨0, [], by omega, rfl, rfl, fun n hn => absurd hn List.not_mem_nil, OwnN.nil _ _, Below.refl _ _⟩
  case round =>
    obtain ⟨k, ns, hk, rfl, hnl, hns, how, hbl⟩ := hrel
    have HS := Lib.hid (And.intro hnl (And.intro hns (And.intro how hbl)))
    by_cases hlt : k < L
    · have hlt' : (k : Int) < L := by omega
      obtain ⟨a, rfl, ca⟩ := (HR.out.1.below hbl).at (show k < l.length by rw [← HR.out.2]; exact hlt)
      obtain ⟨x, hx⟩ : ∃ x, x = l.getD k 0 := ⟨_, rfl⟩
      rw [← hx] at ca
      obtain ⟨z, hz, hz0, hz1⟩ := bits_fff x
      have HZ := Lib.hid (And.intro hz0 hz1)
      clear hx hnl hns how hbl hz0 hz1
      go_wp2_with (first
        | (at_builtin; refine wpl_appN (B := w.heap.size) (ub := wr.heap.size) (xs := ns) (y := z) rfl rfl rfl rfl (HS.out.2.2.1.of (Nat.le_refl _) (fun k hk => Below.heap_alloc _ _ _ (HS.out.2.2.1.block hk).2)) (by rw [World.cell?, World.alloc_heap_new]; rfl) (by have := HS.out.1; omega) (by have := HS.out.2.2.2.size; rw [World.size_alloc]; omega) ?_; intro v' w4 hO4 hg4; have HO4 := Lib.hid hO4; have HG4 := Lib.hid hg4; clear hO4 hg4)
        | fail)
      go_roundw
      case rel =>
        refine ⟨k + 1, ns ++ [z], by omega, by go_num, by rw [List.length_append, HS.out.1]; rfl, fun n hn => ?_, HO4.out, ?_⟩
        · rcases List.mem_append.1 hn with hn | hn
          · exact HS.out.2.1 n hn
          · rw [List.mem_singleton.1 hn]; exact HZ.out
        · exact Below.grown (HS.out.2.2.2.alloc HS.out.2.2.2.size _) HG4.out (by have := HS.out.2.2.2.size; rw [World.size_alloc]; omega) (fun j hj => (HS.out.2.2.1.block hj).1)
      case measure => simp [intOf]; omega
    · have hge : ¬ (k : Int) < L := by omega
      have hok := newOk_small (l := ns) (by omega) hns
      have hrd := how.readsI
      have HK := Lib.hid (And.intro hok (And.intro hrd (show ns.length ≤ maxLen by unfold maxLen; omega)))
      clear hnl hns how hbl hok hrd
      go_wp2_with (first
        | (go_at_call 14; refine (ledger_New_ok HK.out.2.1 HK.out.2.2 HK.out.1).mono ?_; rintro e w1 ⟨g, gl, rfl, hl, hb⟩; have H1 := Lib.hid (And.intro hl hb); clear hl hb)
        | fail)
      go_ret
      obtain ⟨F, h1, h2⟩ := H1.out.1.gr
      exact ⟨g, gl, accL ns, rfl, ⟨H1.out.1.blk, ⟨F, h1, fun k hk => ⟨Nat.le_trans HS.out.2.2.2.size (h2 k hk).1, (h2 k hk).2⟩⟩, Nat.le_trans HS.out.2.2.2.size H1.out.1.lo, H1.out.1.ok, H1.out.1.len⟩, HS.out.2.2.2.trans (H1.out.2.mono HS.out.2.2.2.size)⟩
end Go.Proofs.Ytjmaeiphjjjdoaa
