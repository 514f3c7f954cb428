/-
  The law ReferConfirms: what happens.
-/
import Derived.Test.YtpkamfbjgdmmoaaGreatFq1
import Derived.Test.YtpkamfbjgdmmoaaGreatVin
namespace Go.Proofs.YtpkamfbjgdmmoaaGreat
open Go.RowKit Go.Maps Go.Shelf
set_option linter.unusedVariables false
set_option linter.unusedSimpArgs false

/-- One referendum alone: whether it is chosen. -/
def choose1 (t : Trk) (x : Rfm) (now : Int) : Rfm := if isWait t 0 now x = true then { x with si := now } else x
theorem chooseAll_one {t : Trk} {x : Rfm} (S : Vs) (now : Int) (hm : t.most = 1) : chooseAll [t] [x] S now 1 = [choose1 t x now] := by
  show chooseR t [x] S 0 now = _
  unfold chooseR chosen choose1 waitP decP
  simp only [rowR, List.filter_cons, List.filter_nil]
  by_cases h : isWait t 0 now x = true
  · have hd : isDec 0 x = false := by
      unfold isWait at h
      unfold isDec
      simp only [Bool.and_eq_true, decide_eq_true_eq] at h
      simp [h.1.1.2]
    rw [if_pos h, if_pos h, hd]
    simp only [Bool.false_eq_true, if_false, List.map_cons, List.map_nil, List.length_nil, hm]
    rfl
  · rw [if_neg h, if_neg h]
    simp [isort, insOut, selR]
/-- What Service makes of it. -/
def serve0 (t : Trk) (y : Rfm) (S : Vs) (is now : Int) : Rfm := { y with un := cfmU t (tallyOf S 0) is y now }
theorem service_one {t : Trk} {x y z : Rfm} {S : Vs} {is now o : Int} (hm : t.most = 1) (hy : choose1 t x now = y) (htr : y.tr = 0) (hz : serve0 t y S is now = z) (ho : outE t z now = o) :
    serviceR [t] is [x] S now = if y.st = 1 then (if o = 1 then ([z], S, []) else ([endX z o now (tallyOf S 0)], closeS S 0 o now, [(1, 0, o)])) else ([y], S, []) := by
  unfold serviceR
  rw [show [t].length = 1 from rfl, chooseAll_one S now hm, hy]
  have hT : trkAt [t] y.tr = t := by rw [htr]; rfl
  show serve1 [t] is now ([y], S, []) (0, y) = _
  unfold serve1
  have e1 : svY [t] is now S (0, y) = z := by unfold svY; rw [hT]; exact hz
  have e2 : svO [t] is now S (0, y) = o := by unfold svO; rw [hT, e1]; exact ho
  by_cases h1 : y.st = 1
  · rw [if_pos h1, if_pos h1, e1, e2]
    by_cases h2 : o = 1
    · rw [if_pos h2, if_pos h2]; rfl
    · rw [if_neg h2, if_neg h2]; rfl
  · rw [if_neg h1, if_neg h1]
def trkC (p d c : Int) : Trk := ⟨1, 20, p, d, c, 1, 1, 500000000, 500000000, 1, 0, 1, 10000000, 10000000, 1, 0, 50, 2⟩
def cT (p d c : Int) : List Trk := [trkC p d c]
def cAye (a : Int) : Bal := ⟨1, true, 1, a, 0, 0⟩
def cNay (n : Int) : Bal := ⟨1, false, 1, n, 0, 0⟩
theorem newB_c {p d c : Int} (p0 : 0 ≤ p) (p1 : p ≤ 10) (d0 : 1 ≤ d) (d1 : d ≤ 20) (c0 : 0 ≤ c) (c1 : c ≤ 20) : newB (cT p d c) = true := by
  simp [newB, cT, trackB, trkC, withinB, isB, fallsB]
  omega
theorem heldI_nn (x : Int) : 0 ≤ heldI x := (held_bd x).1
theorem atI_flat (h m x : Int) : atI 1 h h 1 m x = h := by
  unfold atI
  rw [if_pos rfl]
  split
  · rfl
  · rw [Int.sub_self, Int.zero_mul, Int.zero_ediv]; omega
/-- It passes just where there are so many ayes. -/
theorem pass_c {p d c a n el : Int} (a0 : 0 ≤ a) (a1 : a ≤ 1000) (n0 : 0 ≤ n) (n1 : n ≤ 1000) : passB (trkC p d c) a n a 10000 el = (decide (n ≤ a) && decide (100 ≤ a)) := by
  unfold passB trkC
  rw [atI_flat, atI_flat]
  unfold ratioI
  have h2 : decide (10000000 ≤ if (10000 : Int) = 0 then 0 else min (a * 1000000000 / 10000) 1000000000) = decide (100 ≤ a) := by
    rw [if_neg (by omega)]
    congr 1
    exact propext (by omega)
  rw [h2]
  by_cases h0 : a + n = 0
  · rw [if_pos h0]
    have : decide ((100 : Int) ≤ a) = false := decide_eq_false (by omega)
    rw [this, Bool.and_false, Bool.and_false]
  · rw [if_neg h0]
    congr 1
    have key : (500000000 ≤ a * 1000000000 / (a + n)) ↔ n ≤ a := by
      rw [Int.le_ediv_iff_mul_le (by omega)]
      omega
    by_cases h1 : n ≤ a
    · rw [decide_eq_true h1]
      have := key.2 h1
      exact decide_eq_true (show (500000000 : Int) ≤ min (a * 1000000000 / (a + n)) 1000000000 by omega)
    · rw [decide_eq_false h1]
      have : ¬ 500000000 ≤ a * 1000000000 / (a + n) := fun e => h1 (key.1 e)
      exact decide_eq_false (show ¬ (500000000 : Int) ≤ min (a * 1000000000 / (a + n)) 1000000000 by omega)
/-- Submitted and backed. -/
def cq1 : St12 := St12.zero.sub kT 1 0 hsh0 0 0
def cq2 : St12 := cq1.dep kT 2 0
theorem cq_sub (p d c : Int) : St12.zero.sub (cT p d c) 1 0 hsh0 0 0 = cq1 := rfl
theorem cq_dep (p d c : Int) : cq1.dep (cT p d c) 2 0 = cq2 := by
  unfold St12.dep cq2 St12.dep depR depA depE
  rfl
def cx0 : Rfm := { newX 0 hsh0 0 0 1 with bk := 2 }
theorem cq_2 : cq1.R = [newX 0 hsh0 0 0 1] ∧ cq2.R = [cx0] ∧ cq2.M = [] ∧ (cq2.A 3).1 = 1000 ∧ (cq2.A 4).1 = 1000 ∧ sumTo cq2.A 10 = 10000 ∧ vinvB cq2.S cq2.M = true ∧ cq2.S.V = [] ∧ cq2.S.D = [] ∧ cq2.S.G = [] ∧ (cq2.S.P 0).st = 1 ∧ (cq2.S.P 0).tr = 0 ∧ (cq2.S.P 0).ay = 0 ∧ (cq2.S.P 0).na = 0 ∧ (cq2.S.P 0).su = 0 := by decide +kernel
/-- The voting behind both votes. -/
def cS3 (a : Int) : Vs := { cq2.S with P := putP cq2.S.P 0 ((cq2.S.P 0).withT ⟨a, 0, a⟩), V := cput cq2.S.V 3 0 (cAye a) }
def cS4 (a n : Int) : Vs := { cS3 a with P := putP (cS3 a).P 0 (((cS3 a).P 0).withT ⟨a, n, a⟩), V := cput (cS3 a).V 4 0 (cNay n) }
theorem balOk_std {b : Bool} {a : Int} (a0 : 0 ≤ a) (a1 : a ≤ 1073741824) : balOk ⟨1, b, 1, a, 0, 0⟩ = true := by
  simp [balOk, voteB, shapedB, withinB]
  omega
theorem w64 {a : Int} (a0 : -9000000000 ≤ a) (a1 : a ≤ 9000000000) : wrap64 a = a := by
  exact IntWalk.wrap64_in a ⟨by omega, by omega⟩
section
variable {a n : Int}
theorem cq_v3 (a0 : 0 ≤ a) (a1 : a ≤ 1000) : voteE cq2.S cq2.A 3 0 (cAye a) = 0 ∧ (cq2.vot 3 0 (cAye a)) = ⟨[cx0], cS3 a, cq2.A, raiseM [] 3 0 a⟩ := by
  obtain ⟨-, hR, hM, h3, -, -, -, hV, hD, hG, h1, h2, t1, t2, t3⟩ := cq_2
  have hp : plHas cq2.S.P 0 := ⟨by omega, by show (cq2.S.P 0).st ≠ 0; omega⟩
  have hc : capB (cAye a) = a := by unfold capB cAye; simp
  have he : voteE cq2.S cq2.A 3 0 (cAye a) = 0 := by
    unfold voteE
    rw [if_neg (fun e => e.elim (fun e => e (by unfold isAcc; omega)) (fun e => by rw [show balOk (cAye a) = true from balOk_std a0 (by omega)] at e; cases e)), if_neg (fun e => e hp), if_neg (fun e => e h1), hD, hV]
    rw [if_neg (by show ¬ (cget ([] : Cls Dlg) 3 _).isSome = true; rw [show cget ([] : Cls Dlg) 3 (cq2.S.P (0 : Int).toNat).tr = none from rfl]; simp), if_neg (by rw [hc]; show ¬ (cq2.A 3).1 < a; omega), if_neg]
    unfold ballots
    rw [hV]
    simp [rowOf, tbal]
  refine ⟨he, ?_⟩
  unfold St12.vot voteS voteM
  rw [if_pos he, if_pos he, hR, hM, hc]
  have hT : voteT cq2.S 3 0 (cAye a) = ⟨a, 0, a⟩ := by
    unfold voteT voteT0 gotS
    rw [hV, hG]
    show Tl.add ⟨(cq2.S.P 0).ay, (cq2.S.P 0).na, (cq2.S.P 0).su⟩ (gainW (cAye a) ⟨0, 0⟩) = _
    rw [t1, t2, t3]
    have hg : gainW (cAye a) ⟨0, 0⟩ = ⟨a, 0, a⟩ := by
      show (⟨wrap64 (a * 1 + 0), 0, wrap64 (a + 0)⟩ : Tl) = _
      rw [Int.mul_one, Int.add_zero, w64 (by omega) (by omega)]
    rw [hg]
    show (⟨wrap64 (0 + a), wrap64 (0 + 0), wrap64 (0 + a)⟩ : Tl) = _
    rw [Int.zero_add, Int.zero_add]
    rw [w64 (by omega) (by omega), w64 (by omega) (by omega)]
  rw [hT]
  show St12.mk [cx0] { cq2.S with P := putP cq2.S.P 0 ((cq2.S.P 0).withT ⟨a, 0, a⟩), V := cput cq2.S.V 3 0 (cAye a) } cq2.A (raiseM [] 3 (cq2.S.P 0).tr a) = _
  rw [h2]
  rfl
theorem cS3_P : (cS3 a).P 0 = ⟨1, 0, a, 0, a, (cq2.S.P 0).en⟩ := by
  obtain ⟨-, hR, hM, h3, -, -, -, hV, hD, hG, h1, h2, t1, t2, t3⟩ := cq_2
  have e : (cS3 a).P 0 = (cq2.S.P 0).withT ⟨a, 0, a⟩ := by show putP cq2.S.P 0 ((cq2.S.P 0).withT ⟨a, 0, a⟩) 0 = _; exact putP_same _ _ _
  rw [e]
  show (⟨(cq2.S.P 0).st, (cq2.S.P 0).tr, a, 0, a, (cq2.S.P 0).en⟩ : Pl) = _
  rw [h1, h2]
theorem cS4_P : (cS4 a n).P 0 = ⟨1, 0, a, n, a, (cq2.S.P 0).en⟩ := by
  have e : (cS4 a n).P 0 = ((cS3 a).P 0).withT ⟨a, n, a⟩ := by show putP (cS3 a).P 0 (((cS3 a).P 0).withT ⟨a, n, a⟩) 0 = _; exact putP_same _ _ _
  rw [e, cS3_P]
  rfl
theorem cS4_t : tallyOf (cS4 a n) 0 = ⟨a, n, a⟩ := by
  unfold tallyOf
  have hp : plHas (cS4 a n).P 0 := ⟨by omega, by show ((cS4 a n).P 0).st ≠ 0; rw [cS4_P]; simp⟩
  rw [if_pos hp]
  show Pl.t ((cS4 a n).P 0) = _
  rw [cS4_P]
  rfl
theorem cq_v4 (a0 : 0 ≤ a) (a1 : a ≤ 1000) (n0 : 0 ≤ n) (n1 : n ≤ 1000) (M : Cls Int) : voteE (cS3 a) cq2.A 4 0 (cNay n) = 0 ∧ St12.vot ⟨[cx0], cS3 a, cq2.A, M⟩ 4 0 (cNay n) = ⟨[cx0], cS4 a n, cq2.A, raiseM M 4 0 n⟩ := by
  obtain ⟨-, hR, hM, -, h4, -, -, hV, hD, hG, -⟩ := cq_2
  have hp : plHas (cS3 a).P 0 := ⟨by omega, by show ((cS3 a).P 0).st ≠ 0; rw [cS3_P]; simp⟩
  have hc : capB (cNay n) = n := by unfold capB cNay; simp
  have h1 : ((cS3 a).P (0 : Int).toNat).st = 1 := by show ((cS3 a).P 0).st = 1; rw [cS3_P]
  have hV3 : (cS3 a).V = [((3, 0), cAye a)] := by unfold cS3; rw [hV]; rfl
  have hD3 : (cS3 a).D = [] := hD
  have hG3 : (cS3 a).G = [] := hG
  have he : voteE (cS3 a) cq2.A 4 0 (cNay n) = 0 := by
    unfold voteE
    rw [if_neg (fun e => e.elim (fun e => e (by unfold isAcc; omega)) (fun e => by rw [show balOk (cNay n) = true from balOk_std n0 (by omega)] at e; cases e)), if_neg (fun e => e hp), if_neg (fun e => e h1), hD3]
    rw [if_neg (by show ¬ (cget ([] : Cls Dlg) 4 _).isSome = true; rw [show cget ([] : Cls Dlg) 4 ((cS3 a).P (0 : Int).toNat).tr = none from rfl]; simp), if_neg (by rw [hc]; show ¬ (cq2.A 4).1 < n; omega), if_neg]
    unfold ballots
    rw [hV3]
    simp [rowOf, tbal]
  refine ⟨he, ?_⟩
  unfold St12.vot voteS voteM
  show St12.mk [cx0] (if voteE (cS3 a) cq2.A 4 0 (cNay n) = 0 then _ else _) cq2.A (if voteE (cS3 a) cq2.A 4 0 (cNay n) = 0 then _ else _) = _
  rw [if_pos he, if_pos he, hc]
  have hT : voteT (cS3 a) 4 0 (cNay n) = ⟨a, n, a⟩ := by
    unfold voteT voteT0 gotS
    rw [hV3, hG3]
    have hg : gainW (cNay n) ⟨0, 0⟩ = ⟨0, n, 0⟩ := by
      show (⟨0, wrap64 (n * 1 + 0), 0⟩ : Tl) = _
      rw [Int.mul_one, Int.add_zero, w64 (by omega) (by omega)]
    show Tl.add ⟨((cS3 a).P 0).ay, ((cS3 a).P 0).na, ((cS3 a).P 0).su⟩ (gainW (cNay n) ⟨0, 0⟩) = _
    rw [hg, cS3_P]
    show (⟨wrap64 (a + 0), wrap64 (0 + n), wrap64 (a + 0)⟩ : Tl) = _
    rw [Int.zero_add, Int.add_zero, w64 (by omega) (by omega), w64 (by omega) (by omega)]
  rw [hT]
  have h2 : ((cS3 a).P (0 : Int).toNat).tr = 0 := by show ((cS3 a).P 0).tr = 0; rw [cS3_P]
  rw [h2]
  rfl
theorem cq_m : (raiseM [] 3 0 a).length ≤ 1 := by
  unfold raiseM
  split
  · simp
  · exact lockM_len List.Pairwise.nil 3 0 a
theorem cq_vi (a0 : 0 ≤ a) (a1 : a ≤ 1000) : VInv (cS3 a) := by
  have h := (vinvB_of cq_2.2.2.2.2.2.2.1).1.vote cq2.A 3 0 (cAye a)
  have e := (cq_v3 a0 a1).2
  have : voteS cq2.S cq2.A 3 0 (cAye a) = cS3 a := congrArg St12.S e
  rwa [this] at h
/-- The block of the end; the referendum behind the service of a block. -/
def cEnd (q : Bool) (b d c : Int) : Int := if q then b + c else b + d
def cX (q : Bool) (b d c a n now : Int) : Rfm :=
  if now < b then cx0 else if now < cEnd q b d c then { cx0 with si := b, un := if q then b + c else -1 }
  else endX { cx0 with si := b, un := if q then b + c else -1 } (if q then 2 else 3) (cEnd q b d c) ⟨a, n, a⟩
def cSt (q : Bool) (b d c a n now : Int) : St12 := ⟨[cX q b d c a n now], if now < cEnd q b d c then cS4 a n else closeS (cS4 a n) 0 (if q then 2 else 3) (cEnd q b d c), cq2.A, raiseM (raiseM [] 3 0 a) 4 0 n⟩
def cQ (a n : Int) : Bool := decide (n ≤ a) && decide (100 ≤ a)
theorem cSt_t (q : Bool) (b d c now : Int) : tallyOf (cSt q b d c a n now).S 0 = ⟨a, n, a⟩ := by
  unfold cSt
  show tallyOf (if _ then _ else _) 0 = _
  split
  · exact cS4_t
  · rw [tallyOf_closeS]; exact cS4_t
theorem cx0_vals : cx0.st = 1 ∧ cx0.tr = 0 ∧ cx0.si = -1 ∧ cx0.un = -1 ∧ cx0.bk = 2 ∧ cx0.sb = 0 ∧ cx0.who = 1 := ⟨rfl, rfl, rfl, rfl, rfl, rfl, rfl⟩
/-- What always holds of it. -/
theorem cX_vals (q : Bool) (b d c now : Int) (hb : 1 ≤ b) : (cX q b d c a n now).tr = 0 ∧ (cX q b d c a n now).sb = 0 ∧ (cX q b d c a n now).who = 1 ∧ ((cX q b d c a n now).si = -1 ∧ now < b ∨ (cX q b d c a n now).si = b ∧ b ≤ now) := by
  unfold cX
  split
  · exact ⟨rfl, rfl, rfl, .inl ⟨rfl, by omega⟩⟩
  · split
    · exact ⟨rfl, rfl, rfl, .inr ⟨rfl, by omega⟩⟩
    · exact ⟨rfl, rfl, rfl, .inr ⟨rfl, by omega⟩⟩
theorem cq_srvB {p d c : Int} (q : Bool) {b now : Int} (hn : newB (cT p d c) = true) (a0 : 0 ≤ a) (a1 : a ≤ 1000) (n0 : 0 ≤ n) (n1 : n ≤ 1000) (hb : 1 ≤ b) (hb2 : b ≤ 10) (h0 : 0 ≤ now) (h1 : now ≤ 100) : srvB (cT p d c) (cSt q b d c a n now) (now + 1) = true := by
  obtain ⟨v1, v2, v3, v4⟩ := cX_vals (a := a) (n := n) q b d c now hb
  have ht := cSt_t (a := a) (n := n) q b d c now
  have hR : (cSt q b d c a n now).R = [cX q b d c a n now] := rfl
  have hA : (cSt q b d c a n now).A = cq2.A := rfl
  unfold srvB rinB
  rw [hR, hA, cq_2.2.2.2.2.2.1, hn]
  simp only [List.all_cons, List.all_nil, List.length_cons, List.length_nil, Bool.and_eq_true, decide_eq_true_eq, v1, v2, v3, soonB, List.all_eq_true, List.mem_range]
  have hl : ((cT p d c).length : Int) = 1 := rfl
  rw [hl]
  refine ⟨⟨⟨⟨⟨by omega, trivial⟩, ⟨⟨⟨by omega, by omega⟩, by omega⟩, by rcases v4 with ⟨e, -⟩ | ⟨e, -⟩ <;> omega⟩, trivial⟩, by rcases v4 with ⟨e, f⟩ | ⟨e, f⟩ <;> omega, trivial⟩, by omega⟩, fun k hk => ?_⟩
  obtain rfl : k = 0 := by omega
  rw [show ((0 : Nat) : Int) = 0 from rfl, ht]
  unfold Fits10
  simp only
  omega
theorem cX_lt {q : Bool} {b d c now : Int} (h : now < cEnd q b d c) : (cX q b d c a n now).st = 1 := by
  unfold cX
  split
  · rfl
  · first
    | rfl
    | (rw [if_pos h]; rfl)
theorem cX_ge {q : Bool} {b d c now : Int} (hb : b ≤ cEnd q b d c) (h : cEnd q b d c ≤ now) : (cX q b d c a n now).st = (if q then 2 else 3) ∧ (cX q b d c a n now).en = cEnd q b d c := by
  unfold cX
  rw [if_neg (show ¬ now < b by omega), if_neg (show ¬ now < cEnd q b d c by omega)]
  exact ⟨rfl, rfl⟩
theorem cq_rin {p d c : Int} (hn : newB (cT p d c) = true) : rinB (cT p d c) St12.zero.R = true ∧ rinB (cT p d c) cq1.R = true := by
  rw [cq_2.1]
  refine ⟨by simp [rinB, hn, St12.zero], ?_⟩
  have hl : ((cT p d c).length : Int) = 1 := rfl
  simp [rinB, hn, newX, soonB, hl]
theorem cSt_0 (b d c : Int) (q : Bool) (hb : 1 ≤ b) (hd : 1 ≤ d) (hc : 0 ≤ c) : cSt q b d c a n 0 = ⟨[cx0], cS4 a n, cq2.A, raiseM (raiseM [] 3 0 a) 4 0 n⟩ := by
  have hE : 0 < cEnd q b d c := by unfold cEnd; split <;> omega
  unfold cSt
  rw [if_pos hE]
  unfold cX
  rw [if_pos (show (0 : Int) < b by omega)]
/-- A block's service. -/
theorem cq_step {p d c : Int} (a0 : 0 ≤ a) (a1 : a ≤ 1000) (n0 : 0 ≤ n) (n1 : n ≤ 1000) (p0 : 0 ≤ p) (p1 : p ≤ 10) (d1 : 1 ≤ d) (c0 : 0 ≤ c) {b now : Int} (hb : b = max p 1) (h0 : 0 ≤ now) :
    (cSt (cQ a n) b d c a n now).srv (cT p d c) (now + 1) = cSt (cQ a n) b d c a n (now + 1) ∧ (cSt (cQ a n) b d c a n now).evs (cT p d c) (now + 1) = if now + 1 = cEnd (cQ a n) b d c then [(1, 0, if cQ a n then 2 else 3)] else [] := by
  obtain ⟨q, hq⟩ : ∃ q, q = cQ a n := ⟨_, rfl⟩
  have hps : ∀ el, passB (trkC p d c) a n a 10000 el = q := fun el => by rw [hq]; exact pass_c a0 a1 n0 n1
  rw [← hq]
  clear hq
  have hb1 : 1 ≤ b := by omega
  obtain ⟨v1, v2, v3, v4⟩ := cX_vals (a := a) (n := n) q b d c now hb1
  have hT := cSt_t (a := a) (n := n) q b d c now
  obtain ⟨S, hS⟩ : ∃ S, S = (cSt q b d c a n now).S := ⟨_, rfl⟩
  rw [← hS] at hT
  have main : ∀ x' S' ev, serviceR (cT p d c) 10000 [cX q b d c a n now] S (now + 1) = ([x'], S', ev) → x' = cX q b d c a n (now + 1) → S' = (cSt q b d c a n (now + 1)).S → ev = (if now + 1 = cEnd q b d c then [(1, 0, if q then 2 else 3)] else []) → (cSt q b d c a n now).srv (cT p d c) (now + 1) = cSt q b d c a n (now + 1) ∧ (cSt q b d c a n now).evs (cT p d c) (now + 1) = if now + 1 = cEnd q b d c then [(1, 0, if q then 2 else 3)] else [] := by
    intro x' S' ev h1 h2 h3 h4
    have hs : serviceR (cT p d c) (sumTo cq2.A 10) [cX q b d c a n now] (cSt q b d c a n now).S (now + 1) = ([x'], S', ev) := by rw [cq_2.2.2.2.2.2.1, ← hS]; exact h1
    constructor
    · show St12.mk (serviceR (cT p d c) (sumTo cq2.A 10) [cX q b d c a n now] (cSt q b d c a n now).S (now + 1)).1 (serviceR (cT p d c) (sumTo cq2.A 10) [cX q b d c a n now] (cSt q b d c a n now).S (now + 1)).2.1 cq2.A _ = _
      rw [hs, h2, h3]
      rfl
    · show (serviceR (cT p d c) (sumTo cq2.A 10) [cX q b d c a n now] (cSt q b d c a n now).S (now + 1)).2.2 = _
      rw [hs]
      exact h4
  by_cases c1 : now + 1 < b
  · -- it waits
    have e1 : cX q b d c a n now = cx0 := if_pos (by omega)
    have e2 : cX q b d c a n (now + 1) = cx0 := if_pos c1
    have hE : now + 1 < cEnd q b d c := by unfold cEnd; split <;> omega
    refine main cx0 S [] ?_ e2.symm ?_ ?_
    · rw [e1]
      have hch : choose1 (trkC p d c) cx0 (now + 1) = cx0 := if_neg (by
        unfold isWait
        simp only [Bool.and_eq_true, decide_eq_true_eq, not_and]
        intro _ h
        have h : p ≤ now + 1 - 0 := h
        omega)
      have hsv : serve0 (trkC p d c) cx0 S 10000 (now + 1) = cx0 := by unfold serve0 cfmU; rw [if_pos (.inl rfl)]; rfl
      have ho : outE (trkC p d c) cx0 (now + 1) = 1 := by
        unfold outE
        rw [if_neg (fun e => by have h : 30 ≤ now + 1 - 0 := e.2; omega), if_neg (fun e => e.1 rfl), if_neg (fun e => e.1 rfl)]
      rw [show cT p d c = [trkC p d c] from rfl, service_one rfl hch rfl hsv ho, if_pos (show cx0.st = 1 from rfl), if_pos rfl]
    · rw [hS]
      show (if now < cEnd q b d c then _ else _) = (if now + 1 < cEnd q b d c then _ else _)
      rw [if_pos (by omega), if_pos hE]
    · rw [if_neg (by omega)]
  · obtain ⟨z, hz⟩ : ∃ z : Rfm, z = { cx0 with si := b, un := if q then b + c else -1 } := ⟨_, rfl⟩
    have z1 : z.st = 1 ∧ z.tr = 0 ∧ z.si = b ∧ z.un = (if q then b + c else -1) ∧ z.bk = 2 ∧ z.sb = 0 := by rw [hz]; exact ⟨rfl, rfl, rfl, rfl, rfl, rfl⟩
    obtain ⟨zs, zt, zi, zu, zk, zb⟩ := z1
    by_cases c5 : now < cEnd q b d c
    · -- it is decided
      have hch : choose1 (trkC p d c) (cX q b d c a n now) (now + 1) = if now < b then { cx0 with si := b } else z := by
        unfold cX
        by_cases c2 : now < b
        · rw [if_pos c2, if_pos c2]
          have hw : isWait (trkC p d c) 0 (now + 1) cx0 = true := by
            unfold isWait
            simp only [Bool.and_eq_true, decide_eq_true_eq]
            refine ⟨⟨⟨⟨rfl, rfl⟩, rfl⟩, rfl⟩, ?_⟩
            show p ≤ now + 1 - 0
            omega
          unfold choose1
          rw [if_pos hw, show now + 1 = b by omega]
        · rw [if_neg c2, if_neg c2, if_pos c5, ← hz]
          unfold choose1 isWait
          rw [if_neg]
          simp only [Bool.and_eq_true, decide_eq_true_eq, not_and, zi]
          intro h
          omega
      have hsv : serve0 (trkC p d c) (if now < b then { cx0 with si := b } else z) S 10000 (now + 1) = z := by
        unfold serve0 cfmU
        rw [hT]
        by_cases c2 : now < b
        · rw [if_pos c2]
          simp only [hps]
          rw [hz]
          cases q
          · simp
          · rw [if_neg (by show ¬ (b = -1 ∨ true = false); simp; omega)]
            show ({ cx0 with si := b, un := now + 1 + c } : Rfm) = { cx0 with si := b, un := b + c }
            rw [show now + 1 = b by omega]
        · rw [if_neg c2]
          simp only [hps]
          cases q
          · have : z.un = -1 := zu
            rw [if_pos (.inr rfl)]
            rw [← this]
          · have : z.un = b + c := zu
            rw [if_neg (by rw [zi]; simp; omega), if_neg (by rw [this]; omega)]
      have ho : outE (trkC p d c) z (now + 1) = if now + 1 = cEnd q b d c then (if q then 2 else 3) else 1 := by
        unfold outE
        rw [if_neg (fun e => by rw [zi] at e; omega), zi]
        cases q
        · have zu' : z.un = -1 := zu
          have hE : cEnd false b d c = b + d := rfl
          rw [hE] at c5 ⊢
          rw [zu']
          show (if b ≠ -1 ∧ (-1 : Int) ≠ -1 ∧ -1 ≤ now + 1 then (2 : Int) else if b ≠ -1 ∧ (-1 : Int) = -1 ∧ d ≤ now + 1 - b then 3 else 1) = if now + 1 = b + d then 3 else 1
          rw [if_neg (show ¬ (b ≠ -1 ∧ (-1 : Int) ≠ -1 ∧ -1 ≤ now + 1) by omega)]
          by_cases h : now + 1 = b + d
          · rw [if_pos h, if_pos ⟨by omega, rfl, by omega⟩]
          · rw [if_neg h, if_neg (show ¬ (b ≠ -1 ∧ (-1 : Int) = -1 ∧ d ≤ now + 1 - b) by omega)]
        · have zu' : z.un = b + c := zu
          have hE : cEnd true b d c = b + c := rfl
          rw [hE] at c5 ⊢
          rw [zu']
          show (if b ≠ -1 ∧ b + c ≠ -1 ∧ b + c ≤ now + 1 then (2 : Int) else if b ≠ -1 ∧ b + c = -1 ∧ d ≤ now + 1 - b then 3 else 1) = if now + 1 = b + c then 2 else 1
          by_cases h : now + 1 = b + c
          · rw [if_pos h, if_pos ⟨by omega, by omega, by omega⟩]
          · rw [if_neg h, if_neg (show ¬ (b ≠ -1 ∧ b + c ≠ -1 ∧ b + c ≤ now + 1) by omega), if_neg (show ¬ (b ≠ -1 ∧ b + c = -1 ∧ d ≤ now + 1 - b) by omega)]
      have ht1 : (if now < b then { cx0 with si := b } else z).tr = 0 := by split; rfl; exact zt
      have hs1 : (if now < b then { cx0 with si := b } else z).st = 1 := by split; rfl; exact zs
      have hso := service_one (is := 10000) (t := trkC p d c) (S := S) rfl hch ht1 hsv ho
      rw [if_pos hs1, hT] at hso
      have eS : (cSt q b d c a n now).S = cS4 a n := if_pos c5
      rw [eS] at hS
      by_cases c6 : now + 1 = cEnd q b d c
      · have o1 : ¬ (if q then (2 : Int) else 3) = 1 := by split <;> omega
        rw [if_pos c6, if_neg o1] at hso
        refine main _ _ _ hso ?_ ?_ (by rw [if_pos c6])
        · unfold cX
          rw [if_neg c1, if_neg (show ¬ (now + 1 < cEnd q b d c) by omega), ← hz, ← c6]
        · show _ = (if now + 1 < cEnd q b d c then _ else _)
          rw [if_neg (show ¬ (now + 1 < cEnd q b d c) by omega), hS, c6]
      · rw [if_neg c6, if_pos rfl] at hso
        refine main _ _ _ hso ?_ ?_ (by rw [if_neg c6])
        · unfold cX
          rw [if_neg c1, if_pos (show now + 1 < cEnd q b d c by omega), ← hz]
        · show _ = (if now + 1 < cEnd q b d c then _ else _)
          rw [if_pos (show now + 1 < cEnd q b d c by omega), hS]
    · -- it has ended
      have hbe : b ≤ cEnd q b d c := by unfold cEnd; split <;> omega
      have e1 : cX q b d c a n now = endX z (if q then 2 else 3) (cEnd q b d c) ⟨a, n, a⟩ := by unfold cX; rw [if_neg (show ¬ now < b by omega), if_neg c5, hz]
      have e2 : cX q b d c a n (now + 1) = endX z (if q then 2 else 3) (cEnd q b d c) ⟨a, n, a⟩ := by unfold cX; rw [if_neg c1, if_neg (show ¬ now + 1 < cEnd q b d c by omega), hz]
      have st : ¬ (endX z (if q then 2 else 3) (cEnd q b d c) ⟨a, n, a⟩).st = 1 := by show ¬ (if q then (2 : Int) else 3) = 1; split <;> omega
      refine main _ S [] ?_ e2.symm ?_ (by rw [if_neg (by omega)])
      · rw [e1]
        have hch : choose1 (trkC p d c) (endX z (if q then 2 else 3) (cEnd q b d c) ⟨a, n, a⟩) (now + 1) = endX z (if q then 2 else 3) (cEnd q b d c) ⟨a, n, a⟩ := if_neg (by
          unfold isWait
          simp only [Bool.and_eq_true, decide_eq_true_eq, not_and]
          intro h
          exact absurd h.1.1.1 st)
        rw [show cT p d c = [trkC p d c] from rfl, service_one rfl hch zt rfl rfl, if_neg st]
      · rw [hS]
        show (if now < cEnd q b d c then _ else _) = (if now + 1 < cEnd q b d c then _ else _)
        rw [if_neg c5, if_neg (show ¬ now + 1 < cEnd q b d c by omega)]
end
end Go.Proofs.YtpkamfbjgdmmoaaGreat
