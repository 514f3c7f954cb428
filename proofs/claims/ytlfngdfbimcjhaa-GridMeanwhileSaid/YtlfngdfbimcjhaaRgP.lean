/-
  The reference's place.
-/
import Derived.Test.YtlfngdfbimcjhaaRgM
import Derived.Test.YtlfngdfbimcjhaaCls
import Derived.BigQuiet
import Derived.Deep.RegionHeld3
import Derived.Deep.QuietTactic
namespace Go.Proofs.Ytlfngdfbimcjhaa
open Go.RowKit Go.Maps Go.Shelf
set_option linter.unusedVariables false
set_option linter.unusedSimpArgs false

/-- The reference's table in memory. -/
structure RefG (yb : Nat) (v : Value) (M : Cls Int) (w : World) : Prop where
  at_ : Boxed w yb 28 v
  own : OwnR cellR 0 v M w
theorem RefG.keep {yb : Nat} {v : Value} {M : Cls Int} {w w' : World} (h : RefG yb v M w) (h1 : w'.heap[yb]? = w.heap[yb]?) (h2 : ∀ k, v.ownBlock = some k → w'.heap[k]? = w.heap[k]?) : RefG yb v M w' :=
  ⟨h1.trans h.at_, h.own.of (Nat.le_refl _) h2⟩
theorem RefG.below {yb : Nat} {v : Value} {M : Cls Int} {w w' : World} (h : RefG yb v M w) (hb : Below w.heap.size w w') : RefG yb v M w' :=
  h.keep (hb.block yb h.at_.lt) (fun k hk => hb.block k (h.own.block hk).2)
def lexltB (p q : Int × Int) : Bool := decide (p.1 < q.1) || (decide (p.1 = q.1) && decide (p.2 < q.2))
theorem lexltB_iff (p q : Int × Int) : lexltB p q = true ↔ lexlt p q := by simp [lexltB, lexlt]
/-- Does the k-th lie ahead? -/
def befAt (M : Cls Int) (p : Int × Int) (k : Nat) : Bool := match M[k]? with
  | some x => lexltB x.1 p
  | none => false
theorem befAt_in {M : Cls Int} {p : Int × Int} {k : Nat} (h : k < M.length) : befAt M p k = lexltB (M[k]).1 p := by simp [befAt, h]
theorem befAt_out {M : Cls Int} {p : Int × Int} {k : Nat} (h : ¬ k < M.length) : befAt M p k = false := by simp [befAt, h]
theorem Plc.stop {M : Cls Int} {p : Int × Int} {k : Nat} (hk : k ≤ M.length) (h1 : ∀ x ∈ M.take k, lexlt x.1 p) (h2 : befAt M p k = false) : Plc M p k :=
  ⟨hk, h1, fun h hl => by rw [befAt_in h, (lexltB_iff _ _).2 hl] at h2; cases h2⟩

set_option maxHeartbeats 8000000 in
set_option maxRecDepth 100000 in
theorem ref_place (yb : Nat) (v : Value) (M : Cls Int) (a b : Int) (w : World) (hA : RefG yb v M w) (hl : M.length ≤ 1000000) :
    Calls Try.prog 41 #[.pointer (some ⟨yb, 0, none⟩), .int .i64 a, .int .i64 b] w fun e w' => ∃ k : Nat, e = .returned (.tuple #[.int .i64 k, .bool (isAt M (a, b) k)]) ∧ Plc M (a, b) k ∧ Below w.heap.size w w' := by
  obtain ⟨ao, cap, rfl⟩ := hA.own.lenOf
  obtain ⟨n, hn⟩ : ∃ n, n = M.length := ⟨_, rfl⟩
  rw [← hn] at hA hl
  have hn12 : (n : Int) ≤ 1000000 := by omega
  have cY := hA.at_.cell
  have HR := Lib.hid (show RdR cellR w (.slice ao n cap) M from hA.own.reads)
  have HN := Lib.hid hn
  clear hA hn
  go_enter Try.func41, Try.ntmps41
  go_wp2_with fail
  go_loopw [8] (fun i wr => ∃ (k : Nat), k ≤ n ∧ i = .int .i64 k ∧ wr = w ∧ ∀ x ∈ M.take k, lexlt x.1 (a, b)) (fun i _ => n - (intOf i).toNat)
  case atStart => exact ⟨0, by omega, rfl, rfl, fun x h => by simp at h⟩
  case round =>
    obtain ⟨k, hk, rfl, rfl, hd⟩ := hrel
    have HD := Lib.hid hd
    clear hd
    go_upto_region 2 with fail
    go_cut [51] (fun q wx => q = .bool (befAt M (a, b) k) ∧ wx = wr)
    case first =>
      by_cases hlt : k < n
      · have hlt' : (k : Int) < n := by omega
        have hkl : k < M.length := by rw [← HN.out]; exact hlt
        obtain ⟨bb, off, rfl, hrg, -⟩ := HR.out.at hkl
        obtain ⟨x, hx⟩ : ∃ x, x = (M[k]).1 := ⟨_, rfl⟩
        obtain ⟨xa, xb⟩ := x
        have cA : wr.cell? ⟨bb, off + k * 3, none⟩ = some (.int .i64 xa) := by have := hrg 0 (.int .i64 xa) (by simp [cellR, prOf_P, ← hx]); simpa [cellR] using this
        have cB : wr.cell? ⟨bb, off + k * 3 + 1, none⟩ = some (.int .i64 xb) := by have := hrg 1 (.int .i64 xb) (by simp [cellR, prOf_P, ← hx]); simpa [cellR] using this
        have hq := befAt_in (p := (a, b)) hkl
        rw [← hx] at hq
        have HQ := Lib.hid hq
        clear hrg hq hx
        by_cases c1 : xa < a
        · have e1 : decide (xa < a) = true := by simpa using c1
          go_wp2_with fail
          go_meet
          exact ⟨by rw [HQ.out]; simp [lexltB, c1], by first | rfl | trivial⟩
        · have e1 : decide (xa < a) = false := by simpa using c1
          by_cases c2 : xa = a
          · have e2 : (xa == a) = true := by simpa using c2
            go_wp2_with fail
            go_meet
            exact ⟨by rw [HQ.out]; simp [lexltB, c1, c2], by first | rfl | trivial⟩
          · have e2 : (xa == a) = false := by simpa using c2
            go_wp2_with fail
            go_meet
            exact ⟨by rw [HQ.out]; simp [lexltB, c1, c2], by first | rfl | trivial⟩
      · have hge : ¬ (k : Int) < n := by omega
        have hq := befAt_out (p := (a, b)) (show ¬ k < M.length by rw [← HN.out]; exact hlt)
        have HQ := Lib.hid hq
        clear hq
        go_wp2_with fail
        go_meet
        exact ⟨by rw [HQ.out], by first | rfl | trivial⟩
    case rest =>
      obtain ⟨rfl, rfl⟩ := hcut
      obtain ⟨q, hq⟩ : ∃ q, q = befAt M (a, b) k := ⟨_, rfl⟩
      rw [← hq]
      cases q with
      | true =>
        have hlt : k < n := by
          by_cases h : k < n
          · exact h
          · rw [befAt_out (by rw [← HN.out]; exact h)] at hq; cases hq
        have hkl : k < M.length := by rw [← HN.out]; exact hlt
        have hd2 : ∀ x ∈ M.take (k + 1), lexlt x.1 (a, b) := fun x hx => by
          rw [List.take_succ_eq_append_getElem hkl] at hx
          rcases List.mem_append.1 hx with h | h
          · exact HD.out x h
          · rw [List.mem_singleton] at h
            rw [h]
            rw [befAt_in hkl] at hq
            exact (lexltB_iff _ _).1 hq.symm
        have HD2 := Lib.hid hd2
        clear hd2 hq hkl
        go_wp2_with fail
        go_roundw
        case rel => exact ⟨k + 1, by omega, by go_num, by first | rfl | trivial, HD2.out⟩
        case measure => simp [intOf]; omega
      | false =>
        have HP := Lib.hid (Plc.stop (by rw [← HN.out]; exact hk) HD.out hq.symm)
        clear hq HD
        by_cases hlt : k < n
        · have hlt' : (k : Int) < n := by omega
          have hkl : k < M.length := by rw [← HN.out]; exact hlt
          obtain ⟨bb, off, rfl, hrg, -⟩ := HR.out.at hkl
          obtain ⟨x, hx⟩ : ∃ x, x = (M[k]).1 := ⟨_, rfl⟩
          obtain ⟨xa, xb⟩ := x
          have cA : wc.cell? ⟨bb, off + k * 3, none⟩ = some (.int .i64 xa) := by have := hrg 0 (.int .i64 xa) (by simp [cellR, prOf_P, ← hx]); simpa [cellR] using this
          have cB : wc.cell? ⟨bb, off + k * 3 + 1, none⟩ = some (.int .i64 xb) := by have := hrg 1 (.int .i64 xb) (by simp [cellR, prOf_P, ← hx]); simpa [cellR] using this
          have hq := isAt_in (p := (a, b)) hkl
          rw [← hx] at hq
          have HQ := Lib.hid hq
          clear hrg hq hx
          by_cases c1 : xa = a
          · have e1 : (xa == a) = true := by simpa using c1
            go_wp2_with fail
            go_quiet (fail)
            go_wp2_with fail
            exact bodyPost_ret (v := .tuple #[.int .i64 k, .bool (xb == b)]) (by simp [results, Try.results41, go_sem]) rfl ⟨k, by rw [HQ.out]; simp [c1]; try rfl, HP.out, (Below.refl _ wc).trans ⟨rfl, rfl, rfl, Nat.le_refl _, fun _ _ => rfl⟩⟩
          · have e1 : (xa == a) = false := by simpa using c1
            go_wp2_with fail
            go_quiet (fail)
            go_wp2_with fail
            exact bodyPost_ret (v := .tuple #[.int .i64 k, .bool false]) (by simp [results, Try.results41, go_sem]) rfl ⟨k, by rw [HQ.out]; simp [c1]; try rfl, HP.out, (Below.refl _ wc).trans ⟨rfl, rfl, rfl, Nat.le_refl _, fun _ _ => rfl⟩⟩
        · have hge : ¬ (k : Int) < n := by omega
          have HQ := Lib.hid (isAt_out (p := (a, b)) (show ¬ k < M.length by rw [← HN.out]; exact hlt))
          go_wp2_with fail
          go_quiet (fail)
          go_wp2_with fail
          exact bodyPost_ret (v := .tuple #[.int .i64 k, .bool false]) (by simp [results, Try.results41, go_sem]) rfl ⟨k, by rw [HQ.out], HP.out, (Below.refl _ wc).trans ⟨rfl, rfl, rfl, Nat.le_refl _, fun _ _ => rfl⟩⟩
end Go.Proofs.Ytlfngdfbimcjhaa
