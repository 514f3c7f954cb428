/-
  Lock, where more must stay as it was; three locks over one another.
-/
import Derived.Test.YtjmaeiphjjjdoaaLdHo
namespace Go.Proofs.Ytjmaeiphjjjdoaa
open Go.RowKit Go.Maps Go.Shelf
set_option linter.unusedVariables false
set_option linter.unusedSimpArgs false

set_option maxRecDepth 100000 in
set_option maxHeartbeats 1000000 in
theorem ledger_LockG {g gl : Nat} {w : World} {R : World → Prop} {a i n : Int} (hp : w.cell? ⟨g, 20, none⟩ = some (.pointer (some ⟨gl, 0, none⟩))) (hac : isAcc a)
    (hdel : n = 0 ∨ ¬ isBal n → Calls Try.prog 49 #[.pointer (some ⟨gl, 0, none⟩), .int .i64 a, .int .i64 i] w fun e w' => ∃ b : Bool, e = .returned (.bool b) ∧ R w')
    (hset : ¬ (n = 0 ∨ ¬ isBal n) → Calls Try.prog 50 #[.pointer (some ⟨gl, 0, none⟩), .int .i64 a, .int .i64 i, .int .i64 n] w fun e w' => e = .returned (.tuple #[]) ∧ R w') :
    Calls Try.prog 26 #[.pointer (some ⟨g, 0, none⟩), .int .i64 a, .int .i64 i, .int .i64 n] w fun e w' => e = .returned (.tuple #[]) ∧ R w' := by
  obtain ⟨k, rfl, hk⟩ := isAcc_nat hac
  have HK := Lib.hid hk
  have hex : n = 0 ∨ (¬ n = 0 ∧ ¬ isBal n) ∨ (¬ n = 0 ∧ isBal n) := by by_cases h1 : n = 0; exact .inl h1; by_cases h2 : isBal n; exact .inr (.inr ⟨h1, h2⟩); exact .inr (.inl ⟨h1, h2⟩)
  rcases hex with hn | ⟨hn, hbal⟩ | ⟨hn, hbal⟩
  · have HD := Lib.hid (hdel (.inl hn))
    clear hac hdel hset hk
    go_enter Try.func26, Try.ntmps26
    go_wp2_with (first
      | (go_at_call 46; refine (ledger_account HK.out _).mono ?_; rintro e w' ⟨rfl, hw⟩; rw [hw]; clear hw w')
      | (go_at_call 49; refine HD.out.mono ?_; rintro e w1 ⟨b, rfl, h1⟩; have H1 := Lib.hid h1; clear h1)
      | fail)
    exact bodyPost_end (results_none rfl _ _ _) rfl ⟨rfl, H1.out⟩
  · have HD := Lib.hid (hdel (.inr hbal))
    have hd : decide (0 ≤ n ∧ n ≤ 1073741824) = false := by unfold isBal at hbal; exact decide_eq_false hbal
    have HB := Lib.hid hd
    clear hac hdel hset hk hd hbal
    go_enter Try.func26, Try.ntmps26
    go_wp2_with (first
      | (go_at_call 46; refine (ledger_account HK.out _).mono ?_; rintro e w' ⟨rfl, hw⟩; rw [hw]; clear hw w')
      | (go_at_call 33; refine (bound_Balance n _).mono ?_; rw [HB.out]; rintro e w' ⟨rfl, hw⟩; rw [hw]; clear hw w')
      | (go_at_call 49; refine HD.out.mono ?_; rintro e w1 ⟨b, rfl, h1⟩; have H1 := Lib.hid h1; clear h1)
      | fail)
    exact bodyPost_end (results_none rfl _ _ _) rfl ⟨rfl, H1.out⟩
  · have HD := Lib.hid (hset (by simp [hn, hbal]))
    have hd : decide (0 ≤ n ∧ n ≤ 1073741824) = true := by unfold isBal at hbal; exact decide_eq_true hbal
    have HB := Lib.hid hd
    clear hac hdel hset hk hd hbal
    go_enter Try.func26, Try.ntmps26
    go_wp2_with (first
      | (go_at_call 46; refine (ledger_account HK.out _).mono ?_; rintro e w' ⟨rfl, hw⟩; rw [hw]; clear hw w')
      | (go_at_call 33; refine (bound_Balance n _).mono ?_; rw [HB.out]; rintro e w' ⟨rfl, hw⟩; rw [hw]; clear hw w')
      | (go_at_call 50; refine HD.out.mono ?_; rintro e w1 ⟨rfl, h1⟩; have H1 := Lib.hid h1; clear h1)
      | fail)
    exact bodyPost_end (results_none rfl _ _ _) rfl ⟨rfl, H1.out⟩
/-- A ledger that stays away from block z. -/
def LdZ (z N g gl : Nat) (A : Acc) (M : Cls Int) (w : World) : Prop := LdAt N g gl A M w ∧ (∃ F, GrAt codI 80 gl M F w ∧ ∀ k, F k → (N ≤ k ∧ k ≠ g) ∧ k ≠ z) ∧ z ≠ g ∧ z < w.heap.size
section
variable {z N g gl : Nat} {A : Acc} {M : Cls Int} {w w' : World}
theorem LdZ.start (h : LdAt N g gl A M w) (hz : z = w.heap.size) (hb : Below w.heap.size w w') (hlt : z < w'.heap.size) : LdZ z N g gl A M w' := by
  obtain ⟨F, h1, h2⟩ := h.gr
  exact ⟨h.below hb, ⟨F, h1.keep (Grow.of_below hb) (fun k hk => hb.block k (h1.2.2.1 k hk)), fun k hk => ⟨h2 k hk, by have := h1.2.2.1 k hk; omega⟩⟩, by have := h.lt; omega, hlt⟩
theorem ledger_LockZ (h : LdZ z N g gl A M w) (hN : N ≤ w.heap.size) (hlen : M.length < 10000) {a i : Int} (hac : isAcc a) (ha : (Lit.int .i64 a).wf = true) (hi : (Lit.int .i64 i).wf = true) (n : Int) : Calls Try.prog 26 #[.pointer (some ⟨g, 0, none⟩), .int .i64 a, .int .i64 i, .int .i64 n] w fun e w' => e = .returned (.tuple #[]) ∧ (LdZ z N g gl A (lockM M a i n) w' ∧ Below N w w' ∧ w'.heap[z]? = w.heap[z]?) := by
  obtain ⟨h0, ⟨F, hF, hF2⟩, hzg, hzl⟩ := h
  have hM : (lockM M a i n).length ≤ 10000 := by have := lockM_len h0.srt a i n; omega
  have fin : ∀ w', GrTo codI 80 gl (lockM M a i n) F w w' → LdZ z N g gl A (lockM M a i n) w' ∧ Below N w w' ∧ w'.heap[z]? = w.heap[z]? := fun w' ht => by
    have hr := h0.relock hN hM (fun k hk => (hF2 k hk).1) ht
    obtain ⟨F', h1, h2, h3⟩ := ht
    exact ⟨⟨hr.1, ⟨F', h1, fun k hk => (h2 k hk).elim (hF2 k) (fun hk => ⟨⟨by omega, by have := h0.lt; omega⟩, by omega⟩)⟩, hzg, Nat.lt_of_lt_of_le hzl h3.grow.size⟩, hr.2, h3.block z hzl (fun hf => (hF2 z hf).2 rfl) (fun h => h)⟩
  refine ledger_LockG (R := fun w' => LdZ z N g gl A (lockM M a i n) w' ∧ Below N w w' ∧ w'.heap[z]? = w.heap[z]?) h0.ptr hac (fun hc => ?_) (fun hc => ?_)
  · have e : lockM M a i n = cdel M a i := by unfold lockM; rw [if_neg (by simp [hac]), if_pos hc]
    rw [e] at fin ⊢
    refine (grid_Del_I hF (by have := h0.len; omega) ha hi).mono ?_
    rintro e w' ⟨rfl, h3⟩
    exact ⟨_, rfl, fin w' h3⟩
  · have e : lockM M a i n = cput M a i n := by unfold lockM; rw [if_neg (by simp [hac]), if_neg hc]
    rw [e] at fin ⊢
    refine (grid_Set_I hF (by have := h0.len; omega) ha hi n).mono ?_
    rintro e w' ⟨rfl, h3⟩
    exact ⟨rfl, fin w' h3⟩
end
/-- What is locked under an id. -/
def val (M : Cls Int) (i : Int) : Int := (cget M 0 i).getD 0
/-- Locks of account 0, by three ids. -/
structure Lk3 (M : Cls Int) : Prop where
  srt : SrtC M
  ids : ∀ x ∈ rowOf M 0, x.1 = -3 ∨ x.1 = 4 ∨ x.1 = 11
  pos : ∀ x ∈ rowOf M 0, 0 ≤ x.2
  len : M.length ≤ 100
theorem Lk3.nil : Lk3 [] := ⟨List.Pairwise.nil, fun x hx => absurd hx List.not_mem_nil, fun x hx => absurd hx List.not_mem_nil, by simp⟩
theorem Lk3.locked {M : Cls Int} (h : Lk3 M) : lockedOf M 0 = max (max (val M (-3)) (val M 4)) (val M 11) := by
  have hv : ∀ x ∈ rowOf M 0, x.2 = val M x.1 := fun x hx => by
    have : cget M 0 x.1 = some x.2 := (h.srt.row 0).get.2 hx
    rw [val, this]; rfl
  have hle : ∀ i, val M i ≤ lockedOf M 0 ∧ 0 ≤ val M i := fun i => by
    unfold val
    cases e : cget M 0 i with
    | none => exact ⟨maxTo_nonneg _, Int.le_refl _⟩
    | some v =>
      have hm := sget_mem e
      exact ⟨maxTo_le hm, h.pos _ hm⟩
  have h1 := hle (-3)
  have h2 := hle 4
  have h3 := hle 11
  rcases maxTo_is (rowOf M 0) with e | ⟨x, hx, e⟩
  · have e' : lockedOf M 0 = 0 := e
    omega
  · have e' : lockedOf M 0 = val M x.1 := by rw [← hv x hx]; exact e
    rcases h.ids x hx with c | c | c
    all_goals (rw [c] at e'; omega)
theorem Lk3.step {M : Cls Int} (h : Lk3 M) {i n : Int} (hi : i = -3 ∨ i = 4 ∨ i = 11) (hn : isBal n) (hl : M.length < 100) : Lk3 (lockM M 0 i n) ∧ ∀ j, val (lockM M 0 i n) j = if j = i then n else val M j := by
  have hlen := lockM_len h.srt 0 i n
  have h0 : isAcc 0 := by decide
  by_cases c : n = 0
  · have e : lockM M 0 i n = cdel M 0 i := by unfold lockM; rw [if_neg (by simp [h0]), if_pos (.inl c)]
    rw [e] at hlen ⊢
    have hrow : rowOf (cdel M 0 i) 0 = sdel (rowOf M 0) i := by rw [h.srt.row_del, if_pos rfl]
    refine ⟨⟨h.srt.del _ _, fun x hx => ?_, fun x hx => ?_, by omega⟩, fun j => ?_⟩
    · rw [hrow] at hx; exact h.ids x (mem_sdel.1 hx).1
    · rw [hrow] at hx; exact h.pos x (mem_sdel.1 hx).1
    · unfold val cget
      rw [hrow, (h.srt.row 0).get_del]
      by_cases e : j = i
      · rw [if_pos e, if_pos e, c]; rfl
      · rw [if_neg e, if_neg e]
  · have e : lockM M 0 i n = cput M 0 i n := by unfold lockM; rw [if_neg (by simp [h0]), if_neg (by simp [c, hn])]
    rw [e] at hlen ⊢
    have hrow : rowOf (cput M 0 i n) 0 = sput (rowOf M 0) i n := by rw [h.srt.row_put, if_pos rfl]
    refine ⟨⟨h.srt.put _ _ _, fun x hx => ?_, fun x hx => ?_, by omega⟩, fun j => ?_⟩
    · rw [hrow] at hx
      rcases mem_sput.1 hx with rfl | hx
      · exact hi
      · exact h.ids x hx.1
    · rw [hrow] at hx
      rcases mem_sput.1 hx with rfl | hx
      · exact hn.1
      · exact h.pos x hx.1
    · unfold val cget
      rw [hrow, (h.srt.row 0).get_put]
      by_cases e : j = i
      · rw [if_pos e, if_pos e]; rfl
      · rw [if_neg e, if_neg e]
end Go.Proofs.Ytjmaeiphjjjdoaa
