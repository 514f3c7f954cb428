/-
  A voting of nothing: what it answers.
-/
import Derived.Test.YtlnjcfgihklppaaGreatCsv
namespace Go.Proofs.YtlnjcfgihklppaaGreat
open Go.RowKit Go.Maps Go.Shelf
attribute [local go_sem] Oper.semAt_some
set_option linter.unusedVariables false
set_option linter.unusedSimpArgs false

set_option maxRecDepth 100000 in
set_option maxHeartbeats 2000000 in
theorem nil_Open (r t : Int) (w : World) : Calls Tryz.prog 17 #[.pointer none, .int .i64 r, .int .i64 t] w fun e w' => e = .returned (.int .i64 1) ∧ Below w.heap.size w w' := by
  go_enter Tryz.func17, Tryz.ntmps17
  go_wp2
  refine bodyPost_ret (v := .int .i64 1) (by simp [results, Tryz.results17, go_sem]) rfl ⟨rfl, ?_⟩
  first
    | exact Below.refl _ w
    | exact (Below.refl _ w).alloc (Nat.le_refl _) _
set_option maxRecDepth 100000 in
set_option maxHeartbeats 2000000 in
theorem nil_Close (r s n : Int) (w : World) : Calls Tryz.prog 18 #[.pointer none, .int .i64 r, .int .i64 s, .int .i64 n] w fun e w' => e = .returned (.int .i64 1) ∧ Below w.heap.size w w' := by
  go_enter Tryz.func18, Tryz.ntmps18
  go_wp2
  refine bodyPost_ret (v := .int .i64 1) (by simp [results, Tryz.results18, go_sem]) rfl ⟨rfl, ?_⟩
  first
    | exact Below.refl _ w
    | exact (Below.refl _ w).alloc (Nat.le_refl _) _
set_option maxRecDepth 100000 in
set_option maxHeartbeats 2000000 in
theorem nil_Unvote (a r n : Int) (w : World) : Calls Tryz.prog 20 #[.pointer none, .int .i64 a, .int .i64 r, .int .i64 n] w fun e w' => e = .returned (.int .i64 1) ∧ Below w.heap.size w w' := by
  go_enter Tryz.func20, Tryz.ntmps20
  go_wp2
  refine bodyPost_ret (v := .int .i64 1) (by simp [results, Tryz.results20, go_sem]) rfl ⟨rfl, ?_⟩
  first
    | exact Below.refl _ w
    | exact (Below.refl _ w).alloc (Nat.le_refl _) _
set_option maxRecDepth 100000 in
set_option maxHeartbeats 2000000 in
theorem nil_Undelegate (a t n : Int) (w : World) : Calls Tryz.prog 22 #[.pointer none, .int .i64 a, .int .i64 t, .int .i64 n] w fun e w' => e = .returned (.int .i64 1) ∧ Below w.heap.size w w' := by
  go_enter Tryz.func22, Tryz.ntmps22
  go_wp2
  refine bodyPost_ret (v := .int .i64 1) (by simp [results, Tryz.results22, go_sem]) rfl ⟨rfl, ?_⟩
  first
    | exact Below.refl _ w
    | exact (Below.refl _ w).alloc (Nat.le_refl _) _
set_option maxRecDepth 100000 in
set_option maxHeartbeats 2000000 in
theorem nil_Unlock (l : Option Addr) (a t n : Int) (w : World) : Calls Tryz.prog 23 #[.pointer none, .pointer l, .int .i64 a, .int .i64 t, .int .i64 n] w fun e w' => e = .returned (.int .i64 1) ∧ Below w.heap.size w w' := by
  go_enter Tryz.func23, Tryz.ntmps23
  go_wp2
  refine bodyPost_ret (v := .int .i64 1) (by simp [results, Tryz.results23, go_sem]) rfl ⟨rfl, ?_⟩
  first
    | exact Below.refl _ w
    | exact (Below.refl _ w).alloc (Nat.le_refl _) _
set_option maxRecDepth 100000 in
set_option maxHeartbeats 2000000 in
theorem nil_Delegate (l : Option Addr) (a t b v n : Int) (w : World) : Calls Tryz.prog 21 #[.pointer none, .pointer l, .int .i64 a, .int .i64 t, .int .i64 b, .int .i64 v, .int .i64 n] w fun e w' => e = .returned (.int .i64 1) ∧ Below w.heap.size w w' := by
  go_enter Tryz.func21, Tryz.ntmps21
  go_wp2
  refine bodyPost_ret (v := .int .i64 1) (by simp [results, Tryz.results21, go_sem]) rfl ⟨rfl, ?_⟩
  first
    | exact Below.refl _ w
    | exact (Below.refl _ w).alloc (Nat.le_refl _) _
set_option maxRecDepth 100000 in
set_option maxHeartbeats 2000000 in
theorem nil_Delegating (a t : Int) (w : World) : Calls Tryz.prog 14 #[.pointer none, .int .i64 a, .int .i64 t] w fun e w' => e = .returned (.tuple #[.int .i64 0, .int .i64 0, .int .i64 0, .bool false]) ∧ Below w.heap.size w w' := by
  go_enter Tryz.func14, Tryz.ntmps14
  go_wp2
  refine bodyPost_ret (v := .tuple #[.int .i64 0, .int .i64 0, .int .i64 0, .bool false]) (by simp [results, Tryz.results14, go_sem]) rfl ⟨rfl, ?_⟩
  first
    | exact Below.refl _ w
    | exact (Below.refl _ w).alloc (Nat.le_refl _) _
set_option maxRecDepth 100000 in
set_option maxHeartbeats 2000000 in
theorem nil_Prior (a t : Int) (w : World) : Calls Tryz.prog 15 #[.pointer none, .int .i64 a, .int .i64 t] w fun e w' => e = .returned (.tuple #[.int .i64 0, .int .i64 0]) ∧ Below w.heap.size w w' := by
  go_enter Tryz.func15, Tryz.ntmps15
  go_wp2
  refine bodyPost_ret (v := .tuple #[.int .i64 0, .int .i64 0]) (by simp [results, Tryz.results15, go_sem]) rfl ⟨rfl, ?_⟩
  first
    | exact Below.refl _ w
    | exact (Below.refl _ w).alloc (Nat.le_refl _) _
set_option maxRecDepth 100000 in
set_option maxHeartbeats 2000000 in
theorem nil_Got (a t : Int) (w : World) : Calls Tryz.prog 25 #[.pointer none, .int .i64 a, .int .i64 t] w fun e w' => e = .returned (.agg #[.int .i64 0, .int .i64 0]) ∧ Below w.heap.size w w' := by
  go_enter Tryz.func25, Tryz.ntmps25
  go_wp2
  refine bodyPost_ret (v := .agg #[.int .i64 0, .int .i64 0]) (by simp [results, Tryz.results25, go_sem]) rfl ⟨rfl, ?_⟩
  first
    | exact Below.refl _ w
    | exact (Below.refl _ w).alloc (Nat.le_refl _) _
set_option maxRecDepth 100000 in
set_option maxHeartbeats 2000000 in
theorem nil_Vote (l : Option Addr) (a r xk xl xa xn xs : Int) (xy : Bool) (w : World) : Calls Tryz.prog 19 #[.pointer none, .pointer l, .int .i64 a, .int .i64 r, .agg #[.int .i64 xk, .bool xy, .int .i64 xl, .int .i64 xa, .int .i64 xn, .int .i64 xs]] w fun e w' => e = .returned (.int .i64 1) ∧ Below w.heap.size w w' := by
  go_enter Tryz.func19, Tryz.ntmps19
  go_wp2
  refine bodyPost_ret (v := .int .i64 1) (by simp [results, Tryz.results19, go_sem]) rfl ⟨rfl, ?_⟩
  first
    | exact Below.refl _ w
    | exact (Below.refl _ w).alloc (Nat.le_refl _) _
set_option maxRecDepth 100000 in
theorem nil_Tally (r : Int) (w : World) : Calls Tryz.prog 24 #[.pointer none, .int .i64 r] w fun e w' => e = .returned (.agg #[.int .i64 0, .int .i64 0, .int .i64 0]) ∧ Below w.heap.size w w' := by
  go_enter Tryz.func24, Tryz.ntmps24
  go_wp2_with (first
    | (go_at_call 43; refine (voting_poll_nil _ _).mono ?_; rintro e w' ⟨rfl, rfl⟩)
    | fail)
  refine bodyPost_ret (v := .agg #[.int .i64 0, .int .i64 0, .int .i64 0]) (by simp [results, Tryz.results24, go_sem]) rfl ⟨rfl, ?_⟩
  first
    | exact (Below.refl _ w).alloc (Nat.le_refl _) _
    | exact Below.refl _ _
set_option maxHeartbeats 4000000 in
theorem ballots_nil_iter (n : Nat) (bv ba bt : Nat) (w : World) (hbx : w.cell? ⟨bv, 0, none⟩ = some (.pointer none)) (G : FP) (hGb : G bv) :
    Iter Tryz.prog n 88 #[.pointer (some ⟨bv, 0, none⟩), .pointer (some ⟨ba, 0, none⟩), .pointer (some ⟨bt, 0, none⟩)] encs_V [] G w := by
  intro lp B Ψ J Jx Φ0 W hgw hG hΨ hΦ0 hJ hJx hround h0
  have hc1 : W.cell? ⟨bv, 0, none⟩ = some (.pointer none) := (World.cell?_of_block (hG bv hGb).2).trans hbx
  have hlt : bv < W.heap.size := by have := (hG bv hGb).1; have := hgw.size; omega
  have hc2 : (W.alloc (.cells #[.func (.yield lp) #[] #[]] 155)).cell? ⟨bv, 0, none⟩ = some (.pointer none) := (World.cell?_of_block (Below.heap_alloc _ _ _ hlt)).trans hc1
  obtain ⟨hs1, hs2, hs3⟩ := hJ _ _ _ h0
  have hb : Below W.heap.size W (W.alloc (.cells #[.func (.yield lp) #[] #[]] 155)) := (Below.refl _ W).alloc (Nat.le_refl _) _
  have hJ1 : J [] Φ0 (W.alloc (.cells #[.func (.yield lp) #[] #[]] 155)) := hs3 _ (Grow.of_below hb) (fun k hk => hb.block k (hk.elim (fun h => by omega) (fun h => (hs1 k h).2)))
  have H := Lib.hid (And.intro hJ1 hb)
  clear hround hJ hJx hG hΨ hbx hGb h0 hs1 hs3 hJ1 hb
  refine callsIn_of_wp_marks Tryz.func88 rfl trivial ?_ rfl
  simp only [Tryz.ntmps88, List.size_toArray, List.length_cons, List.length_nil, Nat.reduceAdd, Nat.reduceSub, Array.replicate_succ, Array.replicate_zero, List.push_toArray, List.append_toArray, List.nil_append, List.cons_append]
  gi_wp2
  exact ⟨_, results_none rfl _ _ _, ⟨_, rfl⟩, Φ0, fun j h => .inl h, Only.of_later H.out.2, .inl H.out.1⟩
theorem nil_Votes (a t : Int) (w : World) : Calls Tryz.prog 40 #[.pointer none, .int .i64 a, .int .i64 t] w fun e w' => ∃ gf lbx, e = .returned (.func (.func gf) #[] lbx) ∧ (∀ args w, (callFunc gf args).run Tryz.prog w = .ok (.enter gf args) w) ∧ Iter Tryz.prog 0 gf lbx encs_V [] (fun k => k < w'.heap.size) w' ∧ Below w.heap.size w w' := by
  have hbal : Calls Tryz.prog 66 #[.pointer none, .int .i64 a, .int .i64 t] w fun e w' => e = .returned (.func (.func 88) #[] #[.pointer (some ⟨w.heap.size, 0, none⟩), .pointer (some ⟨w.heap.size + 1, 0, none⟩), .pointer (some ⟨w.heap.size + 1 + 1, 0, none⟩)]) ∧ Below w.heap.size w w' ∧ w.heap.size < w'.heap.size ∧ w'.cell? ⟨w.heap.size, 0, none⟩ = some (.pointer none) := by
    refine (voting_ballots _ a t w).mono ?_
    rintro e w' ⟨he, hw'⟩
    have hB : Below w.heap.size w w' := by rw [hw']; exact (((Below.refl _ w).alloc (Nat.le_refl _) _).alloc (by simp) _).alloc (by simp; omega) _
    have b0 : Boxed w' w.heap.size 26 (.pointer none) := by rw [hw']; exact ((Boxed.new w _ _).alloc _).alloc _
    exact ⟨he, hB, b0.lt, b0.cell⟩
  have HB := Lib.hid hbal
  clear hbal
  go_enter Tryz.func40, Tryz.ntmps40
  go_wp2_with (first
    | (go_at_call 66; refine HB.out.mono ?_; rintro e w1 ⟨rfl, hb, hl, hc⟩; have H1 := Lib.hid (And.intro hb (And.intro hl hc)); clear hb hl hc)
    | (go_at_call 76; refine (still_Now_V (m := 0) _ _ [] w1 enters_ballots1 (ballots_nil_iter 0 _ _ _ w1 H1.out.2.2 _ H1.out.2.1) (by simp)).mono ?_; rintro e w2 ⟨v, rfl, hbx, ho, hb⟩; have H2 := Lib.hid (And.intro hbx (And.intro ho hb)); clear hbx ho hb)
    | fail)
  go_ret
  have hit := now1_iter_V 0 _ v [] _ H2.out.1 H2.out.2.1.reads (by simp) (fun k => k < _) (Boxed.lt H2.out.1) (fun k hk => (H2.out.2.1.block hk).2)
  exact ⟨_, _, rfl, enters_now_V, hit, H1.out.1.trans (H2.out.2.2.mono H1.out.1.size)⟩
theorem nil_casts (a t : Int) (w : World) : Calls Tryz.prog 16 #[.pointer none, .int .i64 a, .int .i64 t] w fun e w' => ∃ ao cap, e = .returned (.tuple #[.slice ao 0 cap, .bool true]) ∧ Below w.heap.size w w' := by
  refine (law11_casts none a t [] w (fun w' hb => nil_Votes a t w') (by simp)).mono ?_
  rintro e w' ⟨v, rfl, ho, hb⟩
  obtain ⟨ao, cap, rfl⟩ := ho.lenOf
  exact ⟨ao, cap, rfl, hb⟩
end Go.Proofs.YtlnjcfgihklppaaGreat
