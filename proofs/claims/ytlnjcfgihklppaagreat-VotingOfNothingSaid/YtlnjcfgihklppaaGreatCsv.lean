/-
  The law's casts of a voting; VotingFull: what happens.
-/
import Derived.Test.YtlnjcfgihklppaaGreatCst
import Derived.Test.YtlnjcfgihklppaaGreatVle
namespace Go.Proofs.YtlnjcfgihklppaaGreat
open Go.RowKit Go.Maps Go.Shelf
set_option linter.unusedVariables false
set_option linter.unusedSimpArgs false

theorem VoX.casts {vb N : Nat} {S : Vs} {F : FP} {w : World} (h : VoX vb N S F w) (hi : VInv S) {a : Int} (ha : (Lit.int .i64 a).wf = true) (t : Int) (hl : (ballots S a t).length ≤ 100) :
    Calls Tryz.prog 16 #[.pointer (some ⟨vb, 0, none⟩), .int .i64 a, .int .i64 t] w fun e w' => ∃ v, e = .returned (.tuple #[v, .bool true]) ∧ OwnR castR w.heap.size v (ballots S a t) w' ∧ Below w.heap.size w w' := by
  refine law11_casts _ a t (ballots S a t) w (fun w' hb => ?_) hl
  have h' := h.below hb
  refine (h'.Votes (by have := (hi.lens h').1; omega) ha (fun x hx => (hi.row a x hx).1) t).mono ?_
  rintro e w2 ⟨bx, v, rfl, hbx, ho, hle, hb2⟩
  have hit := now1_iter_V 0 bx v (ballots S a t) w2 hbx ho.reads (by omega) (fun k => k < w2.heap.size) hbx.lt (fun k hk => (ho.block hk).2)
  exact ⟨_, _, rfl, enters_now_V, hit, hb2⟩
theorem Pvb.casts {p g vb N : Nat} {S : Vs} {A : Acc} {M : Cls Int} {bs : List (Nat × List Value)} {w0 w : World} (h : Pvb p g vb N S A M bs w0 w) {a : Int} (ha : (Lit.int .i64 a).wf = true) (t : Int) (hl : (ballots S a t).length ≤ 100) :
    Calls Tryz.prog 16 #[.pointer (some ⟨vb, 0, none⟩), .int .i64 a, .int .i64 t] w fun e w' => ∃ ao cap, e = .returned (.tuple #[.slice ao (ballots S a t).length cap, .bool true]) ∧ OwnR castR w.heap.size (.slice ao (ballots S a t).length cap) (ballots S a t) w' ∧ Pvb p g vb N S A M bs w0 w' := by
  have h' := h
  obtain ⟨Zn, h1, h2, h3⟩ := h
  obtain ⟨F, hx, lift⟩ := h1.lv.vo
  refine (hx.casts h1.inv ha t hl).mono ?_
  rintro e w' ⟨v, rfl, ho, hb⟩
  have ho' := ho
  obtain ⟨ao, cap, rfl⟩ := ho'.lenOf
  exact ⟨ao, cap, rfl, ho, h'.below hb⟩
def flA : Acc := accL [0, 100]
def flX : Bal := ⟨2, false, 0, 5, 6, 0⟩
def flS : Nat → Vs
  | 0 => Vs.zero
  | k + 1 => voteS (openS (flS k) k 1) flA 1 k flX
def flM : Nat → Cls Int
  | 0 => []
  | k + 1 => voteM (openS (flS k) k 1) flA (flM k) 1 k flX
theorem fl_E : ∀ k < 12, voteE (openS (flS k) k 1) flA 1 k flX = if k < 6 then 0 else 3 := by decide +kernel
theorem fl_again : ∀ n < 13, ∀ k < 12, k < n → k < 6 → voteE (flS n) flA 1 k flX = 0 := by decide +kernel
theorem fl_len : ∀ n < 13, (ballots (flS n) 1 1).length = min n 6 := by decide +kernel
theorem fl_lenA : ∀ n < 13, ∀ k < 12, k < n → k < 6 → (ballots (voteS (flS n) flA 1 k flX) 1 1).length = min n 6 := by decide +kernel
theorem vwMin2 (x y : Int) : (if y < x then y else x) = min x y := by split <;> omega
theorem vw_min2 (x y : Int) (w : World) : (Builtin.min_ #[3, 3] 3 #[.int .i64 x, .int .i64 y]).run Tryz.prog w = .ok (.int .i64 (min x y)) w := by
  have h : (Builtin.min_ #[3, 3] 3 #[.int .i64 x, .int .i64 y]).run Tryz.prog w = .ok (.int .i64 (if y < x then y else x)) w := by
    simp [Builtin.min_, Builtin.min2]
  rw [h, vwMin2]
end Go.Proofs.YtlnjcfgihklppaaGreat
