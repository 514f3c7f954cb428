/-
  The law ReferQueue: what the services come to.
-/
import Derived.Test.YtpkamfbjgdmmoaaGreatQq1
namespace Go.Proofs.YtpkamfbjgdmmoaaGreat
open Go.RowKit Go.Maps Go.Shelf
set_option linter.unusedVariables false
set_option linter.unusedSimpArgs false

/-- Where none ends, all are set one behind the other. -/
theorem serve_sets {ts : List Trk} {is now : Int} {S : Vs} : ∀ (L : List (Int × Rfm)) (R0 : List Rfm), (∀ p ∈ L, p.2.st = 1 ∧ svO ts is now S p = 1) → L.foldl (serve1 ts is now) (R0, S, []) = (L.foldl (fun R p => R.set p.1.toNat (svY ts is now S p)) R0, S, [])
  | [], R0, _ => rfl
  | p :: L, R0, h => by
    rw [List.foldl_cons, List.foldl_cons]
    obtain ⟨h1, h2⟩ := h p (by simp)
    have : serve1 ts is now (R0, S, []) p = (R0.set p.1.toNat (svY ts is now S p), S, []) := by
      unfold serve1
      rw [if_pos h1, if_pos h2]
    rw [this]
    exact serve_sets L _ (fun q hq => h q (List.mem_cons_of_mem _ hq))
theorem sets_get {f : Int × Rfm → Rfm} : ∀ (R : List Rfm) (k : Nat) (R0 : List Rfm) (i : Nat), ((rowR k R).foldl (fun R p => R.set p.1.toNat (f p)) R0).length = R0.length ∧ (i < R0.length → ((rowR k R).foldl (fun R p => R.set p.1.toNat (f p)) R0)[i]? = if h : k ≤ i ∧ i - k < R.length then some (f ((i : Int), R[i - k])) else R0[i]?)
  | [], k, R0, i => by simp [rowR]
  | x :: R, k, R0, i => by
    rw [rowR, List.foldl_cons]
    obtain ⟨h1, h2⟩ := sets_get (f := f) R (k + 1) (R0.set (k : Int).toNat (f ((k : Int), x))) i
    rw [Int.toNat_natCast] at h1 h2
    refine ⟨by rw [Int.toNat_natCast, h1, List.length_set], fun hi => ?_⟩
    rw [Int.toNat_natCast, h2 (by rw [List.length_set]; exact hi)]
    by_cases e : i = k
    · subst e
      rw [dif_neg (by omega), dif_pos ⟨Nat.le_refl _, by simp⟩, List.getElem?_set_self hi]
      simp
    · by_cases h : k + 1 ≤ i ∧ i - (k + 1) < R.length
      · rw [dif_pos h, dif_pos ⟨by omega, by simp; omega⟩]
        congr 3
        obtain ⟨m, rfl⟩ : ∃ m, i = k + 1 + m := ⟨i - (k + 1), by omega⟩
        simp only [show k + 1 + m - (k + 1) = m by omega, show k + 1 + m - k = m + 1 by omega]
        rfl
      · rw [dif_neg h, dif_neg (by simp; omega), List.getElem?_set_ne (by omega)]
/-- All of one track are served, none ends. -/
theorem serve_all {t : Trk} {is now : Int} {R : List Rfm} {S : Vs} (h : ∀ x ∈ rowR 0 R, x.2.st = 1 ∧ svO [t] is now S x = 1) : ∃ R', serveP [t] is now R S (rowR 0 R) = (R', S, []) ∧ R'.length = R.length ∧ ∀ i : Nat, i < R.length → R'[i]? = some (svY [t] is now S ((i : Int), refAt R i)) := by
  refine ⟨_, serve_sets (rowR 0 R) R h, (sets_get R 0 R 0).1, fun i hi => ?_⟩
  rw [(sets_get R 0 R i).2 hi, dif_pos ⟨Nat.zero_le _, by simpa using hi⟩]
  congr 2
  unfold refAt
  rw [if_pos (by omega), Int.toNat_natCast, List.getElem?_eq_getElem hi]
  rfl
theorem rowR_all {R : List Rfm} {P : Rfm → Prop} (h : ∀ x ∈ R, P x) : ∀ p ∈ rowR 0 R, P p.2 := fun p hp => by
  obtain ⟨i, hi, -⟩ := mem_rowR.1 hp
  exact h _ (List.mem_of_getElem? hi)
/-- Numbers, rising. -/
theorem rowR_fst {β : Type} : ∀ (l : List β) (k : Nat), ((rowR k l).map (·.1)).Pairwise (· < ·) ∧ (∀ x ∈ (rowR k l).map (·.1), (k : Int) ≤ x ∧ x < ((k + l.length : Nat) : Int)) ∧ ∀ i : Nat, k ≤ i → i < k + l.length → (i : Int) ∈ (rowR k l).map (·.1)
  | [], k => ⟨List.Pairwise.nil, fun x hx => by simp [rowR] at hx, fun i h1 h2 => by simp at h2; omega⟩
  | x :: l, k => by
    obtain ⟨h1, h2, h3⟩ := rowR_fst l (k + 1)
    rw [rowR, List.map_cons]
    refine ⟨List.pairwise_cons.2 ⟨fun y hy => by have := (h2 y hy).1; show (k : Int) < y; omega, h1⟩, fun y hy => ?_, fun i hi hj => ?_⟩
    · rcases List.mem_cons.1 hy with rfl | hy
      · simp; omega
      · have := h2 y hy; simp only [List.length_cons]; omega
    · by_cases e : i = k
      · subst e; simp
      · refine List.mem_cons_of_mem _ (h3 i (by omega) (by simp only [List.length_cons] at hj; omega))
theorem refAt_rep {k i : Nat} (h : i < k) : refAt (List.replicate k cx0) i = cx0 := by
  unfold refAt
  rw [if_pos (by omega), Int.toNat_natCast, List.getElem?_eq_getElem (by simpa using h)]
  simp
/-- What is chosen. -/
def qC (k : Nat) (m : Int) (S : Vs) : List Int := (isort (cmpA S) ((rowR 0 (List.replicate k cx0)).map (·.1))).take (min k m.toNat)
theorem selR_get (now : Int) : ∀ (C : List Int) (R : List Rfm) (i : Nat), (∀ x ∈ C, ∃ j : Nat, x = j ∧ j < R.length) → i < R.length → (selR R now C).length = R.length ∧ refAt (selR R now C) i = if (i : Int) ∈ C then { refAt R i with si := now } else refAt R i
  | [], R, i, h, hi => ⟨rfl, by simp [selR]⟩
  | c :: C, R, i, h, hi => by
    obtain ⟨j, rfl, hj⟩ := h c (by simp)
    have h2 := selR_get now C (R.set j { refAt R j with si := now }) i (fun x hx => by rw [List.length_set]; exact h x (List.mem_cons_of_mem _ hx)) (by rw [List.length_set]; exact hi)
    have e : selR R now ((j : Int) :: C) = selR (R.set j { refAt R j with si := now }) now C := by
      unfold selR
      rw [List.foldl_cons, Int.toNat_natCast]
    rw [e]
    refine ⟨by rw [h2.1, List.length_set], ?_⟩
    rw [h2.2]
    have e2 : refAt (R.set j { refAt R j with si := now }) i = if i = j then { refAt R j with si := now } else refAt R i := by
      generalize ({ refAt R j with si := now } : Rfm) = y
      by_cases q : i = j
      · rw [if_pos q, q]
        unfold refAt
        rw [if_pos (by omega), Int.toNat_natCast, List.getElem?_set_self hj]
        rfl
      · rw [if_neg q]
        unfold refAt
        rw [if_pos (by omega), if_pos (by omega), Int.toNat_natCast, List.getElem?_set_ne (fun e => q e.symm)]
    rw [e2]
    by_cases q : i = j
    · rw [if_pos q, if_pos (show (i : Int) ∈ (j : Int) :: C by rw [q]; simp), q]
      split <;> rfl
    · rw [if_neg q]
      have : ((i : Int) ∈ (j : Int) :: C) ↔ (i : Int) ∈ C := by
        rw [List.mem_cons]
        exact ⟨fun e => e.elim (fun e => absurd (by omega) q) id, .inr⟩
      by_cases q2 : (i : Int) ∈ C
      · rw [if_pos q2, if_pos (this.2 q2)]
      · rw [if_neg q2, if_neg (fun e => q2 (this.1 e))]
section
variable {k : Nat} {s : St12} {m : Int}
theorem QInv.tally (h : QInv k s) (hk : k ≤ 8) {i : Nat} (hi : i < k) : tallyOf s.S i = ⟨(s.S.P i).ay, (s.S.P i).na, (s.S.P i).su⟩ := by
  unfold tallyOf
  have hp : plHas s.S.P i := ⟨by omega, by rw [Int.toNat_natCast, (h.p i hi).1]; decide⟩
  rw [if_pos hp, Int.toNat_natCast]
  rfl
theorem QInv.srv (h : QInv k s) (hk : k ≤ 8) (hn : newB (qT m) = true) {now : Int} (h1 : 0 ≤ now) (h2 : now ≤ 100) : srvB (qT m) s now = true := by
  unfold srvB
  rw [h.rin hk hn, h.a, (qA_all k hk).1]
  have hl : s.R.length = k := by rw [h.r]; simp
  simp only [Bool.true_and, Bool.and_eq_true, List.all_eq_true, decide_eq_true_eq, List.mem_range, soonB]
  refine ⟨⟨fun x hx => ?_, by omega⟩, fun i hi => ?_⟩
  · rw [h.r] at hx
    rw [(List.mem_replicate.1 hx).2]
    show (-1 : Int) ≤ now
    omega
  · rw [hl] at hi
    rw [h.tally hk hi]
    obtain ⟨-, -, q1, q2, q3⟩ := h.p i hi
    unfold Fits10
    simp only
    omega
/-- The first service: none may be decided yet. -/
theorem QInv.srv1 (h : QInv k s) (hk : k ≤ 8) : s.srv (qT m) 1 = s ∧ s.evs (qT m) 1 = [] := by
  have key : serviceR (qT m) (sumTo s.A 10) s.R s.S 1 = (s.R, s.S, []) := by
    unfold serviceR
    have hch : chooseAll (qT m) s.R s.S 1 (qT m).length = s.R := by
      show chooseR (trkM m) s.R s.S 0 1 = s.R
      unfold chooseR chosen
      have hw : waitP (trkM m) 0 1 (rowR 0 s.R) = [] := by
        unfold waitP
        rw [List.filter_eq_nil_iff.2]
        · rfl
        · intro p hp
          have := rowR_all (R := s.R) (P := fun x => x = cx0) (fun x hx => by rw [h.r] at hx; exact (List.mem_replicate.1 hx).2) p hp
          rw [this]
          unfold isWait
          simp [trkM, cx0, newX]
      rw [hw]
      simp [isort, insOut, selR]
    rw [hch]
    have hall : ∀ p ∈ rowR 0 s.R, p.2 = cx0 := rowR_all (P := fun x => x = cx0) (fun x hx => by rw [h.r] at hx; exact (List.mem_replicate.1 hx).2)
    have hsv : ∀ p ∈ rowR 0 s.R, svY (qT m) (sumTo s.A 10) 1 s.S p = cx0 := fun p hp => by
      unfold svY cfmU
      rw [hall p hp, if_pos (.inl rfl)]
      rfl
    obtain ⟨R', h1, h2, h3⟩ := serve_all (t := trkM m) (is := sumTo s.A 10) (now := 1) (R := s.R) (S := s.S) (fun p hp => ⟨by rw [hall p hp]; rfl, by
      show outE (trkAt (qT m) p.2.tr) (svY (qT m) (sumTo s.A 10) 1 s.S p) 1 = 1
      rw [hsv p hp]
      unfold outE
      rw [if_neg (by decide), if_neg (by decide), if_neg (fun e => e.1 rfl)]⟩)
    have : R' = s.R := by
      refine List.ext_getElem? (fun i => ?_)
      by_cases hi : i < s.R.length
      · have hm : ((i : Int), refAt s.R i) ∈ rowR 0 s.R := by
          refine mem_rowR.2 ⟨i, ?_, by simp⟩
          unfold refAt
          rw [if_pos (by omega), Int.toNat_natCast, List.getElem?_eq_getElem hi]
          rfl
        rw [h3 i hi, show svY [trkM m] (sumTo s.A 10) 1 s.S ((i : Int), refAt s.R i) = cx0 from hsv _ hm]
        have hall2 : ∀ x ∈ s.R, x = cx0 := fun x hx => by rw [h.r] at hx; exact (List.mem_replicate.1 hx).2
        rw [List.getElem?_eq_getElem hi, hall2 _ (List.getElem_mem hi)]
      · rw [List.getElem?_eq_none (by omega), List.getElem?_eq_none (by omega)]
    rw [this] at h1
    exact h1
  constructor
  · show St12.mk (serviceR (qT m) (sumTo s.A 10) s.R s.S 1).1 (serviceR (qT m) (sumTo s.A 10) s.R s.S 1).2.1 s.A s.M = s
    rw [key]
  · show (serviceR (qT m) (sumTo s.A 10) s.R s.S 1).2.2 = []
    rw [key]
/-- The numbers that wait. -/
def qW (k : Nat) : List Int := (rowR 0 (List.replicate k cx0)).map (·.1)
theorem qC_spec (k : Nat) {m : Int} (S : Vs) : (isort (cmpA S) (qW k)).Pairwise (ltA fun i => (tallyOf S i).a) ∧ (isort (cmpA S) (qW k)).Perm (qW k) := isort_sort (t := fun i => (tallyOf S i).a) (fun x y => cmpA_lt S x y) (rowR_fst (List.replicate k cx0) 0).1
theorem qW_mem {k : Nat} {x : Int} : x ∈ qW k ↔ ∃ i : Nat, x = i ∧ i < k := by
  obtain ⟨-, h2, h3⟩ := rowR_fst (List.replicate k cx0) 0
  constructor
  · intro hx
    have := h2 x hx
    simp only [List.length_replicate] at this
    exact ⟨x.toNat, by omega, by omega⟩
  · rintro ⟨i, rfl, hi⟩
    exact h3 i (by omega) (by simp; omega)
theorem qW_len (k : Nat) : (qW k).length = k := by unfold qW; rw [List.length_map, rowR_len]; simp
theorem ltA_nodup {t : Int → Int} {l : List Int} (h : l.Pairwise (ltA t)) : l.Nodup := h.imp (fun {a b} h e => by
  subst e
  rcases h with h | ⟨-, h⟩ <;> omega)
/-- Whom it chooses, and whom it does not. -/
theorem qC_mem {k : Nat} {m : Int} {S : Vs} {x : Int} (h : x ∈ qC k m S) : ∃ i : Nat, x = i ∧ i < k := qW_mem.1 ((qC_spec (m := m) k S).2.mem_iff.1 (List.mem_of_mem_take h))
theorem qC_order {k : Nat} {m : Int} {S : Vs} {i j : Nat} (hi : (i : Int) ∈ qC k m S) (hj : j < k) (hn : (j : Int) ∉ qC k m S) : ltA (fun i => (tallyOf S i).a) i j := by
  obtain ⟨h1, h2⟩ := qC_spec (m := m) k S
  have hjm : (j : Int) ∈ isort (cmpA S) (qW k) := h2.mem_iff.2 (qW_mem.2 ⟨j, rfl, hj⟩)
  rw [← List.take_append_drop (min k m.toNat) (isort (cmpA S) (qW k))] at h1 hjm
  rcases List.mem_append.1 hjm with h | h
  · exact absurd h hn
  · exact (List.pairwise_append.1 h1).2.2 _ hi _ h
theorem qC_count {k : Nat} {m : Int} {S : Vs} : ((List.range k).filter fun i : Nat => decide ((i : Int) ∈ qC k m S)).length = min k m.toNat := by
  obtain ⟨h1, h2⟩ := qC_spec (m := m) k S
  have hl : (qC k m S).length = min k m.toNat := by
    unfold qC
    rw [List.length_take, show (rowR 0 (List.replicate k cx0)).map (·.1) = qW k from rfl, h2.length_eq, qW_len]
    omega
  have hnd : (qC k m S).Nodup := List.Nodup.sublist (List.take_sublist _ _) (ltA_nodup h1)
  have hnd2 : (((List.range k).filter fun i : Nat => decide ((i : Int) ∈ qC k m S)).map (fun i : Nat => (i : Int))).Nodup := by
    rw [List.nodup_iff_pairwise_ne, List.pairwise_map]
    exact (List.nodup_iff_pairwise_ne.1 (List.nodup_range.filter _)).imp (fun {a b} h e => h (by omega))
  have hp := (List.perm_ext_iff_of_nodup hnd2 hnd).2 (fun x => by
    simp only [List.mem_map, List.mem_filter, List.mem_range, decide_eq_true_eq]
    constructor
    · rintro ⟨i, ⟨-, h⟩, rfl⟩; exact h
    · intro h
      obtain ⟨i, rfl, hi⟩ := qC_mem h
      exact ⟨i, ⟨hi, h⟩, rfl⟩)
  have := hp.length_eq
  rw [List.length_map, hl] at this
  exact this
/-- One that is chosen now. -/
def cx2 : Rfm := { cx0 with si := 2 }
theorem out_q (m is : Int) (S : Vs) {p : Int × Rfm} (h : p.2 = cx0 ∨ p.2 = cx2) : p.2.st = 1 ∧ svO (qT m) is 2 S p = 1 ∧ (svY (qT m) is 2 S p).si = p.2.si := by
  refine ⟨by rcases h with h | h <;> rw [h] <;> rfl, ?_, rfl⟩
  have ht : trkAt (qT m) p.2.tr = trkM m := by rcases h with h | h <;> rw [h] <;> rfl
  unfold svO
  rw [ht]
  have hu : (svY (qT m) is 2 S p).un = -1 ∨ ((svY (qT m) is 2 S p).un = 5 ∧ p.2 = cx2) := by
    unfold svY
    rw [ht]
    show cfmU (trkM m) (tallyOf S p.1) is p.2 2 = -1 ∨ _
    unfold cfmU
    rcases h with h | h
    · rw [h, if_pos (.inl rfl)]; exact .inl rfl
    · split
      · exact .inl rfl
      · exact .inr ⟨by show (if p.2.un = -1 then (2 : Int) + 3 else p.2.un) = 5; rw [h, if_pos (show cx2.un = -1 from rfl)]; rfl, h⟩
  have hs : (svY (qT m) is 2 S p).si = p.2.si := rfl
  have hb : (svY (qT m) is 2 S p).sb = 0 := by show p.2.sb = 0; rcases h with h | h <;> rw [h] <;> rfl
  unfold outE
  rw [hb, hs, if_neg (show ¬ (p.2.si = -1 ∧ (30 : Int) ≤ 2 - 0) by omega)]
  rw [if_neg (show ¬ (p.2.si ≠ -1 ∧ (svY (qT m) is 2 S p).un ≠ -1 ∧ (svY (qT m) is 2 S p).un ≤ 2) by omega)]
  rw [if_neg]
  rintro ⟨e1, -, e3⟩
  have e3 : (10 : Int) ≤ 2 - p.2.si := e3
  rcases h with h | h
  · rw [h] at e1; exact e1 rfl
  · rw [h] at e3; have e3 : (10 : Int) ≤ 2 - 2 := e3; omega
/-- The second service: so many are chosen. -/
theorem QInv.srv2 (h : QInv k s) (hk : k ≤ 8) (m1 : 1 ≤ m) : (s.srv (qT m) 2).R.length = k ∧ (s.srv (qT m) 2).S = s.S ∧ ∀ i : Nat, i < k → (refAt (s.srv (qT m) 2).R i).si = if (i : Int) ∈ qC k m s.S then 2 else -1 := by
  have hlen : s.R.length = k := by rw [h.r]; simp
  have hch : chooseAll (qT m) s.R s.S 2 (qT m).length = selR s.R 2 (qC k m s.S) := by
    show chooseR (trkM m) s.R s.S 0 2 = _
    unfold chooseR
    congr 1
    unfold chosen
    have hall : ∀ p ∈ rowR 0 s.R, p.2 = cx0 := rowR_all (P := fun x => x = cx0) (fun x hx => by rw [h.r] at hx; exact (List.mem_replicate.1 hx).2)
    have hw : waitP (trkM m) 0 2 (rowR 0 s.R) = qW k := by
      unfold waitP qW
      rw [List.filter_eq_self.2 (fun p hp => by rw [hall p hp]; unfold isWait; simp [trkM, cx0, newX]), h.r]
    have hd : decP 0 (rowR 0 s.R) = 0 := by
      unfold decP
      rw [List.filter_eq_nil_iff.2 (fun p hp => by rw [hall p hp]; simp [isDec, cx0, newX])]
      rfl
    rw [hw, hd]
    show (isort (cmpA s.S) (qW k)).take (min (isort (cmpA s.S) (qW k)).length (max (m - ((0 : Nat) : Int)) 0).toNat) = (isort (cmpA s.S) (qW k)).take (min k m.toNat)
    rw [isort_len, qW_len]
    congr 2
    omega
  have hsel : ∀ i : Nat, i < k → refAt (selR s.R 2 (qC k m s.S)) i = if (i : Int) ∈ qC k m s.S then cx2 else cx0 := fun i hi => by
    rw [(selR_get 2 (qC k m s.S) s.R i (fun x hx => by rw [hlen]; exact qC_mem hx) (by omega)).2, h.r, refAt_rep hi]
    rfl
  have hsl : (selR s.R 2 (qC k m s.S)).length = k := by rw [selR_len, hlen]
  have hval : ∀ p ∈ rowR 0 (selR s.R 2 (qC k m s.S)), p.2 = cx0 ∨ p.2 = cx2 := fun p hp => by
    obtain ⟨i, hi, -⟩ := mem_rowR.1 hp
    have hil := (List.getElem?_eq_some_iff.1 hi).1
    have : refAt (selR s.R 2 (qC k m s.S)) i = p.2 := by
      unfold refAt
      rw [if_pos (by omega), Int.toNat_natCast, hi]
      rfl
    rw [← this, hsel i (by omega)]
    split
    · exact .inr rfl
    · exact .inl rfl
  obtain ⟨R', h1, h2, h3⟩ := serve_all (t := trkM m) (is := sumTo s.A 10) (now := 2) (R := selR s.R 2 (qC k m s.S)) (S := s.S) (fun p hp => ⟨(out_q m (sumTo s.A 10) s.S (hval p hp)).1, (out_q m (sumTo s.A 10) s.S (hval p hp)).2.1⟩)
  have key : serviceR (qT m) (sumTo s.A 10) s.R s.S 2 = (R', s.S, []) := by
    unfold serviceR
    rw [hch]
    exact h1
  have e1 : (s.srv (qT m) 2).R = R' := by show (serviceR (qT m) (sumTo s.A 10) s.R s.S 2).1 = _; rw [key]
  have e2 : (s.srv (qT m) 2).S = s.S := by show (serviceR (qT m) (sumTo s.A 10) s.R s.S 2).2.1 = _; rw [key]
  rw [e1]
  refine ⟨by rw [h2, hsl], e2, fun i hi => ?_⟩
  have hg := h3 i (by omega)
  have : refAt R' i = svY [trkM m] (sumTo s.A 10) 2 s.S ((i : Int), refAt (selR s.R 2 (qC k m s.S)) i) := by
    conv => lhs; unfold refAt
    rw [if_pos (by omega), Int.toNat_natCast, hg]
    rfl
  rw [this]
  show (refAt (selR s.R 2 (qC k m s.S)) i).si = _
  rw [hsel i hi]
  split <;> rfl
end
end Go.Proofs.YtpkamfbjgdmmoaaGreat
