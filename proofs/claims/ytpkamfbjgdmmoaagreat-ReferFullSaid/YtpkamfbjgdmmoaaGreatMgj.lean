/-
  Joined texts.
-/
import Derived.StillTailTactics
import Derived.Test.YtpkamfbjgdmmoaaGreatMgi

section
namespace Go.Proofs.YtpkamfbjgdmmoaaGreat
open Go.RowKit Go.Maps Go.Shelf
set_option linter.unusedVariables false
set_option linter.unusedSimpArgs false

def RvToX (r g vb N : Nat) (ts : List Trk) (R : List Rfm) (S : Vs) (A : Acc) (M : Cls Int) (Z B : FP) (w w' : World) : Prop :=
  (∀ j, B j → j < w.heap.size ∧ ¬ Z j) ∧ ∃ Z', RvAt r g vb N ts R S A M Z' w' ∧ (∀ j, Z' j → Z j ∨ w.heap.size ≤ j) ∧ Only (fun j => Z j ∨ B j) (fun _ => False) w w'
section
variable {r g vb N : Nat} {ts : List Trk} {R R' : List Rfm} {S S' : Vs} {A A' : Acc} {M M' : Cls Int} {Z B : FP} {w w0 w1 w' : World}
theorem RvToX.start (h : RvAt r g vb N ts R S A M Z w) (hB : ∀ j, B j → j < w.heap.size ∧ ¬ Z j) : RvToX r g vb N ts R S A M Z B w w := ⟨hB, Z, h, fun k hk => .inl hk, Only.refl _ _ _⟩
theorem RvToX.size (h : RvToX r g vb N ts R S A M Z B w w1) : w.heap.size ≤ w1.heap.size := by obtain ⟨-, Z', -, -, h3⟩ := h; exact h3.grow.size
/-- What stays. -/
theorem RvToX.old (h : RvToX r g vb N ts R S A M Z B w w1) {k : Nat} (hk : k < w.heap.size) (hz : ¬ Z k) (hb : ¬ B k) : w1.heap[k]? = w.heap[k]? := by
  obtain ⟨-, Z', -, -, h3⟩ := h
  exact h3.block k hk (fun e => e.elim hz hb) (fun h => h)
/-- A step out of theirs. -/
theorem RvToX.step (h : RvToX r g vb N ts R S A M Z B w w1) (hk : ∀ Z1, RvAt r g vb N ts R S A M Z1 w1 → RvTo r g vb N ts R' S' A' M' Z1 w1 w') : RvToX r g vb N ts R' S' A' M' Z B w w' ∧ ∀ j, j < w.heap.size → ¬ Z j → w'.heap[j]? = w1.heap[j]? := by
  obtain ⟨hB, Z1, h1, h2, h3⟩ := h
  obtain ⟨Z2, k1, k2, k3⟩ := hk Z1 h1
  have hs := h3.grow.size
  have hst : ∀ j, j < w.heap.size → ¬ Z j → w'.heap[j]? = w1.heap[j]? := fun j hj hz => k3.block j (by omega) (fun e => (h2 j e).elim hz (fun e => by omega)) (fun h => h)
  exact ⟨⟨hB, Z2, k1, fun j hj => (k2 j hj).elim (h2 j) (fun e => .inr (by omega)), h3.grow.trans k3.grow, fun j hj h4 h5 => (hst j hj (fun e => h4 (.inl e))).trans (h3.block j hj h4 h5)⟩, hst⟩
theorem RvToX.re (h : RvToX r g vb N ts R S A M Z B w w1) : ∃ FR, ReX r N ts R FR w1 ∧ ∀ R' w', ReTo r N ts R' FR w1 w' → RvToX r g vb N ts R' S A M Z B w w' ∧ ∀ j, j < w.heap.size → ¬ Z j → w'.heap[j]? = w1.heap[j]? := by
  obtain ⟨hB, Z1, h1, h2, h3⟩ := h
  obtain ⟨FR, k1, k2⟩ := h1.re
  refine ⟨FR, k1, fun R' w' ht => ?_⟩
  obtain ⟨Z2, q1, q2, q3⟩ := k2 R' w' ht
  have hs := h3.grow.size
  have hst : ∀ j, j < w.heap.size → ¬ Z j → w'.heap[j]? = w1.heap[j]? := fun j hj hz => q3.block j (by omega) (fun e => (h2 j e).elim hz (fun e => by omega)) (fun h => h)
  exact ⟨⟨hB, Z2, q1, fun j hj => (q2 j hj).elim (h2 j) (fun e => .inr (by omega)), h3.grow.trans q3.grow, fun j hj h4 h5 => (hst j hj (fun e => h4 (.inl e))).trans (h3.block j hj h4 h5)⟩, hst⟩
theorem RvToX.lv (h : RvToX r g vb N ts R S A M Z B w w1) : ∃ Zn, LvAt g vb N S A M Zn w1 ∧ ∀ S' A' M' w', LvTo g vb N S' A' M' Zn w1 w' → RvToX r g vb N ts R S' A' M' Z B w w' ∧ ∀ j, j < w.heap.size → ¬ Z j → w'.heap[j]? = w1.heap[j]? := by
  obtain ⟨hB, Z1, h1, h2, h3⟩ := h
  obtain ⟨Zn, k1, k2⟩ := h1.lv
  refine ⟨Zn, k1, fun S' A' M' w' ht => ?_⟩
  obtain ⟨Z2, q1, q2, q3⟩ := k2 S' A' M' w' ht
  have hs := h3.grow.size
  have hst : ∀ j, j < w.heap.size → ¬ Z j → w'.heap[j]? = w1.heap[j]? := fun j hj hz => q3.block j (by omega) (fun e => (h2 j e).elim hz (fun e => by omega)) (fun h => h)
  exact ⟨⟨hB, Z2, q1, fun j hj => (q2 j hj).elim (h2 j) (fun e => .inr (by omega)), h3.grow.trans q3.grow, fun j hj h4 h5 => (hst j hj (fun e => h4 (.inl e))).trans (h3.block j hj h4 h5)⟩, hst⟩
theorem RvToX.vo (h : RvToX r g vb N ts R S A M Z B w w1) : ∃ F, VoX vb N S F w1 ∧ ∀ S' w', VoTo vb N S' F w1 w' → RvToX r g vb N ts R S' A M Z B w w' ∧ ∀ j, j < w.heap.size → ¬ Z j → w'.heap[j]? = w1.heap[j]? := by
  obtain ⟨Zn, h1, h2⟩ := h.lv
  obtain ⟨F, k1, k2⟩ := h1.vo
  exact ⟨F, k1, fun S' w' ht => h2 _ _ _ _ (k2 _ _ ht)⟩
theorem RvToX.ld (h : RvToX r g vb N ts R S A M Z B w w1) : ∃ FL, LdX g N A M FL w1 ∧ ∀ A' M' w', LdTo g N A' M' FL w1 w' → RvToX r g vb N ts R S A' M' Z B w w' ∧ ∀ j, j < w.heap.size → ¬ Z j → w'.heap[j]? = w1.heap[j]? := by
  obtain ⟨Zn, h1, h2⟩ := h.lv
  obtain ⟨F, k1, k2⟩ := h1.ld
  exact ⟨F, k1, fun A' M' w' ht => h2 _ _ _ _ (k2 _ _ _ ht)⟩
theorem RvToX.below (h : RvToX r g vb N ts R S A M Z B w w1) (hb : Below w1.heap.size w1 w') : RvToX r g vb N ts R S A M Z B w w' ∧ ∀ j, j < w.heap.size → w'.heap[j]? = w1.heap[j]? := by
  have hs := h.size
  have := h.step (w' := w') (R' := R) (S' := S) (A' := A) (M' := M) (fun Z1 h1 => RvTo.of_below h1 hb)
  exact ⟨this.1, fun j hj => hb.block j (by omega)⟩
/-- A place of one's own is written. -/
theorem RvToX.box (h : RvToX r g vb N ts R S A M Z B w w1) {b : Nat} (hb : B b) (hg : Grow w1 w') (ho : ∀ j, j ≠ b → w'.heap[j]? = w1.heap[j]?) : RvToX r g vb N ts R S A M Z B w w' := by
  obtain ⟨hB, Z1, h1, h2, h3⟩ := h
  have hbz : ¬ Z1 b := fun e => (h2 b e).elim (hB b hb).2 (fun e => by have := (hB b hb).1; omega)
  exact ⟨hB, Z1, h1.keep hg (fun k hk => ho k (fun e => hbz (e ▸ hk))), h2, h3.grow.trans hg, fun j hj h4 h5 => (ho j (fun e => h4 (.inr (e ▸ hb)))).trans (h3.block j hj h4 h5)⟩
theorem RvToX.setCell (h : RvToX r g vb N ts R S A M Z B w w1) {b : Nat} (hb : B b) (i : Nat) (v : Value) : RvToX r g vb N ts R S A M Z B w (w1.setCell ⟨b, i, none⟩ v) := h.box hb ⟨rfl, rfl, rfl, by simp [World.setCell]⟩ (fun j hj => Below.heap_setCell _ _ _ j hj)
/-- Places that were made since are nobody's. -/
theorem RvToX.fin (h : RvToX r g vb N ts R S A M Z B w w1) (hb : Below w0.heap.size w0 w) (hB : ∀ j, B j → w0.heap.size ≤ j) : RvTo r g vb N ts R S A M Z w0 w1 := by
  obtain ⟨-, Z1, h1, h2, h3⟩ := h
  have hs := hb.size
  exact ⟨Z1, h1, fun j hj => (h2 j hj).imp id (fun e => by omega), (Grow.of_below hb).trans h3.grow, fun j hj h4 h5 => (h3.block j (by omega) (fun e => e.elim h4 (fun e => by have := hB j e; omega)) h5).trans (hb.block j hj)⟩
/-- A referendum ends; its place is one's own. -/
theorem RvToX.en (h : RvToX r g vb N ts R S A M Z B w w1) {k : Nat} (hk : k < R.length) (hl : R.length ≤ 12) {xb : Nat} (hb : B xb) {x : Rfm} (hx : RfBox w1 xb x) (st now : Int) :
    Calls Tryz.prog 60 #[.pointer (some ⟨r, 0, none⟩), .pointer (some ⟨vb, 0, none⟩), .int .i64 k, .pointer (some ⟨xb, 0, none⟩), .int .i64 st, .int .i64 now] w1 fun e w' => e = .returned (.agg (evR.f (1, (k : Int), st)).toArray) ∧ RvToX r g vb N ts (R.set k (endX x st now (tallyOf S k))) (closeS S k st now) A M Z B w w' ∧ RfBox w' xb (endX x st now (tallyOf S k)) ∧ (∀ j, j < w.heap.size → ¬ Z j → j ≠ xb → w'.heap[j]? = w1.heap[j]?) := by
  obtain ⟨hB, Z1, h1, h2, h3⟩ := h
  have hs := h3.grow.size
  have hbz : ¬ Z1 xb := fun e => (h2 xb e).elim (hB xb hb).2 (fun e => by have := (hB xb hb).1; omega)
  refine (refer_end h1 hk hl hx hbz st now).mono ?_
  rintro e w' ⟨he, Z2, k1, k2, k3, hy⟩
  have hst : ∀ j, j < w.heap.size → ¬ Z j → j ≠ xb → w'.heap[j]? = w1.heap[j]? := fun j hj hz hx => k3.block j (by omega) (fun e => e.elim (fun e => (h2 j e).elim hz (fun e => by omega)) hx) (fun h => h)
  exact ⟨he, ⟨hB, Z2, k1, fun j hj => (k2 j hj).elim (h2 j) (fun e => .inr (by omega)), h3.grow.trans k3.grow, fun j hj h4 h5 => (hst j hj (fun e => h4 (.inl e)) (fun e => h4 (.inr (e ▸ hb)))).trans (h3.block j hj h4 h5)⟩, hy, hst⟩
end
/-- A track of a list. -/
def trkAt (ts : List Trk) (i : Int) : Trk := (ts[i.toNat]?).getD trk0
theorem trkAt_is {ts : List Trk} {k : Nat} (h : k < ts.length) : trkAt ts k = ts[k] := by unfold trkAt; rw [Int.toNat_natCast, List.getElem?_eq_getElem h]; rfl
/-- What referenda are: so many, of tracks that are there. -/
structure Rin (ts : List Trk) (R : List Rfm) : Prop where
  len : R.length ≤ 12
  tlen : 1 ≤ ts.length ∧ ts.length ≤ 4
  ok : ∀ t ∈ ts, trackB t = true
  tr : ∀ x ∈ R, 0 ≤ x.tr ∧ x.tr < ts.length
  who : ∀ x ∈ R, 0 ≤ x.who ∧ x.who < 10
  sb : ∀ x ∈ R, soon x.sb
  si : ∀ x ∈ R, soon x.si
theorem Rin.set {ts : List Trk} {R : List Rfm} (h : Rin ts R) (k : Nat) {y : Rfm} (h1 : 0 ≤ y.tr ∧ y.tr < ts.length) (h4 : 0 ≤ y.who ∧ y.who < 10) (h2 : soon y.sb) (h3 : soon y.si) : Rin ts (R.set k y) := by
  have key : ∀ {p : Rfm → Prop}, (∀ x ∈ R, p x) → p y → ∀ x ∈ R.set k y, p x := fun hp hy x hx => (List.mem_or_eq_of_mem_set hx).elim (hp x) (fun e => e ▸ hy)
  exact ⟨by rw [List.length_set]; exact h.len, h.tlen, h.ok, key h.tr h1, key h.who h4, key h.sb h2, key h.si h3⟩
theorem Rin.snoc {ts : List Trk} {R : List Rfm} (h : Rin ts R) (hl : R.length < 12) {y : Rfm} (h1 : 0 ≤ y.tr ∧ y.tr < ts.length) (h4 : 0 ≤ y.who ∧ y.who < 10) (h2 : soon y.sb) (h3 : soon y.si) : Rin ts (R ++ [y]) := by
  have key : ∀ {p : Rfm → Prop}, (∀ x ∈ R, p x) → p y → ∀ x ∈ R ++ [y], p x := fun hp hy x hx => (List.mem_append.1 hx).elim (hp x) (fun e => by rw [List.mem_singleton.1 e]; exact hy)
  exact ⟨by rw [List.length_append, List.length_singleton]; omega, h.tlen, h.ok, key h.tr h1, key h.who h4, key h.sb h2, key h.si h3⟩
end Go.Proofs.YtpkamfbjgdmmoaaGreat
end

section
namespace Go.Proofs.YtpkamfbjgdmmoaaGreat
open Go.RowKit Go.Maps Go.Shelf
set_option linter.unusedVariables false
set_option linter.unusedSimpArgs false

/-- What Deposit answers, and leaves. -/
def depE (ts : List Trk) (R : List Rfm) (A : Acc) (M : Cls Int) (a ref : Int) : Int :=
  if ongE R ref ≠ 0 then ongE R ref else if (refAt R ref).bk ≠ -1 then 5 else spendE A M a (trkAt ts (refAt R ref).tr).dep false
def depR (ts : List Trk) (R : List Rfm) (A : Acc) (M : Cls Int) (a ref : Int) : List Rfm := if depE ts R A M a ref = 0 then R.set ref.toNat { refAt R ref with bk := a } else R
def depA (ts : List Trk) (R : List Rfm) (A : Acc) (M : Cls Int) (a ref : Int) : Acc := if depE ts R A M a ref = 0 then reserveA A M a (trkAt ts (refAt R ref).tr).dep else A
theorem ongE_cases (R : List Rfm) (b : Int) : (ongE R b ≠ 0 ∧ (ongE R b = 4 ∨ ongE R b = 9)) ∨ (ongE R b = 0 ∧ ∃ k : Nat, b = k ∧ k < R.length ∧ (refAt R b).st = 1 ∧ ongV R b = refAt R b ∧ refAt R b ∈ R) := by
  by_cases h : ongE R b = 0
  · right
    have h0 := h
    unfold ongE at h
    by_cases q : refHas R b = true
    · rw [if_pos q] at h
      unfold refHas at q
      have q := of_decide_eq_true q
      refine ⟨h0, b.toNat, by omega, by omega, ?_, by unfold ongV; rw [if_pos h0], ?_⟩
      · by_cases q2 : (refAt R b).st = 1
        · exact q2
        · rw [if_neg q2] at h; cases h
      · have e : b = ((b.toNat : Nat) : Int) := by omega
        rw [e, refAt_is (by omega)]; exact List.getElem_mem _
    · rw [if_neg q] at h; cases h
  · left
    refine ⟨h, ?_⟩
    unfold ongE
    split
    · split
      · rename_i q1 q2; exact absurd (by unfold ongE; rw [if_pos q1, if_pos q2]) h
      · exact .inr rfl
    · exact .inl rfl
section
variable {r g vb N : Nat} {ts : List Trk} {R : List Rfm} {S : Vs} {A : Acc} {M : Cls Int} {Z : FP} {w : World}
set_option maxRecDepth 100000 in
set_option maxHeartbeats 4000000 in
attribute [local go_sem ↓] loadSt_R_hide in
theorem refer_Deposit (h : RvAt r g vb N ts R S A M Z w) (hi : Rin ts R) {a ref : Int} (ha : (Lit.int .i64 a).wf = true) (hr : (Lit.int .i64 ref).wf = true) :
    Calls Tryz.prog 15 #[.pointer (some ⟨r, 0, none⟩), .pointer (some ⟨g, 0, none⟩), .int .i64 a, .int .i64 ref] w fun e w' => e = .returned (.int .i64 (depE ts R A M a ref)) ∧ RvTo r g vb N ts (depR ts R A M a ref) S (depA ts R A M a ref) M Z w w' := by
  obtain ⟨FR, hre, -⟩ := h.re
  have hong := refer_ongoing hre hr
  rcases ongE_cases R ref with ⟨hne, -⟩ | ⟨h0, k, rfl, hk, hst, hv, hmem⟩
  · obtain ⟨E1, hE1⟩ : ∃ E, E = ongE R ref := ⟨_, rfl⟩
    obtain ⟨v, hv⟩ : ∃ v, v = ongV R ref := ⟨_, rfl⟩
    have eE : depE ts R A M a ref = E1 := by unfold depE; rw [if_pos hne, hE1]
    have eR : depR ts R A M a ref = R := by unfold depR; rw [eE, if_neg (by rw [hE1]; exact hne)]
    have eA : depA ts R A M a ref = A := by unfold depA; rw [eE, if_neg (by rw [hE1]; exact hne)]
    rw [← hE1, ← hv] at hong
    rw [eE, eR, eA]
    have q1 : (E1 != 0) = true := by rw [hE1]; simpa using hne
    have HH := Lib.hid h
    have HO := Lib.hid hong
    clear h hre hong hE1 hv eE eR eA hne hi ha hr
    go_enter Tryz.func15, Tryz.ntmps15
    go_wp2_with (first
      | (go_at_call 42; refine HO.out.mono ?_; rintro e w2 ⟨rfl, hb⟩; have H2 := Lib.hid hb; clear hb)
      | (refine wpl_allocS (s := rfS) rfl rfl rfl ?_)
      | (refine wpl_storeS (s := rfS) (t := v) (b := w2.heap.size) _ _ rfl rfl rfl rfl rfl (World.alloc_heap_new w2 _) (zeroS rfS) ?_; rw [newS])
      | fail)
    go_ret
    exact ⟨rfl, RvTo.of_below HH.out (H2.out.alloc H2.out.size _)⟩
  · obtain ⟨x, hx⟩ : ∃ x, x = refAt R k := ⟨_, rfl⟩
    rw [hv, h0, ← hx] at hong
    rw [← hx] at hmem hst
    obtain ⟨tk, htk, htl⟩ : ∃ tk : Nat, x.tr = tk ∧ tk < ts.length := ⟨x.tr.toNat, by have := hi.tr x hmem; omega, by have := hi.tr x hmem; omega⟩
    obtain ⟨t, ht⟩ : ∃ t, t = ts[tk] := ⟨_, rfl⟩
    have eD : trkAt ts x.tr = t := by rw [htk, trkAt_is htl, ht]
    by_cases hbk : x.bk = -1
    · obtain ⟨Es, hEs⟩ : ∃ E, E = spendE A M a t.dep false := ⟨_, rfl⟩
      have eE : depE ts R A M a k = Es := by unfold depE; rw [if_neg (by omega), ← hx, if_neg (by simp [hbk]), eD, hEs]
      -- behind ongoing
      have step : ∀ w2, Below w.heap.size w w2 → ∃ w3 b9, w3 = w2.alloc (rfS.obj x) ∧ b9 = w2.heap.size ∧ RfBox w3 b9 x ∧
          (∃ tb cap, w3.drew.cell? ⟨r, 0, none⟩ = some (.slice (some ⟨tb, 0, none⟩) ts.length cap) ∧ w3.drew.cell? ⟨tb, tk * 18 + 1, none⟩ = some (.int .i64 t.dep)) ∧ w3.drew.cell? ⟨b9, 1, none⟩ = some (.int .i64 tk) ∧ w3.cell? ⟨b9, 38, none⟩ = some (.int .i64 x.bk) ∧
          Calls Tryz.prog 39 #[.pointer (some ⟨g, 0, none⟩), .int .i64 a, .int .i64 t.dep] w3.drew fun e w4 => e = .returned (.int .i64 Es) ∧
            (Es ≠ 0 → RvTo r g vb N ts R S A M Z w w4) ∧ (Es = 0 → w4.cell? ⟨b9, 38, none⟩ = some (.int .i64 x.bk) ∧ w4.frozen? ⟨b9, 38, none⟩ = false ∧ (loadSt_R (.pointer (some ⟨b9, 0, none⟩))).run Tryz.prog (w4.setCell ⟨b9, 38, none⟩ (.int .i64 a)) = .ok (.agg (rfS.f { x with bk := a }).toArray) (w4.setCell ⟨b9, 38, none⟩ (.int .i64 a)) ∧
              Calls Tryz.prog 41 #[.pointer (some ⟨r, 0, none⟩), .int .i64 k, .agg (rfS.f { x with bk := a }).toArray] (w4.setCell ⟨b9, 38, none⟩ (.int .i64 a)) fun e w6 => e = .returned (.tuple #[]) ∧ RvTo r g vb N ts (R.set k { x with bk := a }) S (reserveA A M a t.dep) M Z w w6) := by
        intro w2 hb2
        have hb3 : Below w.heap.size w (w2.alloc (rfS.obj x)) := hb2.alloc hb2.size _
        have hbx : RfBox (w2.alloc (rfS.obj x)) w2.heap.size x := World.alloc_heap_new w2 _
        have h3 := h.below hb3
        have hs2 := hb2.size
        obtain ⟨FR3, hre3, -⟩ := h3.re
        obtain ⟨tb, cap, gb, c0, -, htb, -⟩ := hre3.cells
        have hrt := trk_at htb htl
        rw [← ht] at hrt
        obtain ⟨-, x1, -, -, -, -, x38, -⟩ := rf_at hbx.range
        rw [htk] at x1
        refine ⟨_, _, rfl, rfl, hbx, ⟨tb, cap, c0, hrt 1 _ rfl⟩, x1, x38, ?_⟩
        have hbl : w2.heap.size < (w2.alloc (rfS.obj x)).heap.size := hbx.lt
        have hbZ : ¬ Z w2.heap.size := fun hf => by have := h.lt hf; omega
        have h3d : RvAt r g vb N ts R S A M Z (w2.alloc (rfS.obj x)).drew := h3.below (Below.refl _ _).drew
        have X0 := RvToX.start (B := fun j => j = w2.heap.size) h3d (fun j hj => by subst hj; exact ⟨hbl, hbZ⟩)
        obtain ⟨FL, hld, lift⟩ := X0.ld
        refine (ledger_ReserveX hld ha t.dep).mono ?_
        rintro e w4 ⟨he, hto⟩
        obtain ⟨X4, hst4⟩ := lift _ _ _ hto
        have hb3d : Below w.heap.size w (w2.alloc (rfS.obj x)).drew := hb3.trans (Below.refl _ _).drew
        have hx4 : RfBox w4 w2.heap.size x := (hst4 _ hbl hbZ).trans hbx
        refine ⟨by rw [he, hEs], fun hne => ?_, fun hz => ?_⟩
        · have eA : reserveA A M a t.dep = A := by unfold reserveA; rw [if_neg (by rw [← hEs]; exact hne)]
          rw [eA] at X4
          exact X4.fin hb3d (fun j hj => by subst hj; exact hs2)
        · have hx5 : RfBox (w4.setCell ⟨w2.heap.size, 38, none⟩ (.int .i64 a)) w2.heap.size { x with bk := a } := hx4.set (rf_set_bk x a)
          obtain ⟨-, -, -, -, -, -, y38, -⟩ := rf_at hx4.range
          refine ⟨y38, hx4.frozen _, run_loadSt_R hx5.range, ?_⟩
          have X5 := X4.setCell (b := w2.heap.size) rfl 38 (.int .i64 a)
          obtain ⟨FR5, hre5, lift5⟩ := X5.re
          refine (refer_set hre5 hre5.size (R' := R.set k { x with bk := a }) (by omega) (by have := hi.len; omega) _ (by rw [if_pos hk])).mono ?_
          rintro e w6 ⟨he6, hto6⟩
          exact ⟨he6, (lift5 _ _ hto6).1.fin hb3d (fun j hj => by subst hj; exact hs2)⟩
      have eR : Es = 0 → depR ts R A M a k = R.set k { x with bk := a } := fun q => by unfold depR; rw [eE, if_pos q, ← hx, Int.toNat_natCast]
      have eA : Es = 0 → depA ts R A M a k = reserveA A M a t.dep := fun q => by unfold depA; rw [eE, if_pos q, ← hx, eD]
      have eR' : Es ≠ 0 → depR ts R A M a k = R := fun q => by unfold depR; rw [eE, if_neg q]
      have eA' : Es ≠ 0 → depA ts R A M a k = A := fun q => by unfold depA; rw [eE, if_neg q]
      obtain ⟨n, hn⟩ : ∃ n, n = ts.length := ⟨_, rfl⟩
      rw [← hn] at step htl
      have hkI : (tk : Int) < n := by omega
      rw [eE]
      have HST := Lib.hid step
      have HE := Lib.hid (And.intro eR (And.intro eA (And.intro eR' eA')))
      have HO := Lib.hid hong
      have HBK := Lib.hid hbk
      obtain ⟨dp, hdp⟩ : ∃ dp, dp = t.dep := ⟨_, rfl⟩
      rw [← hdp] at HST HE
      clear hdp h hre hong hi ha hr h0 hk hst hv hmem hx htk htl ht eD hbk hEs eE step eR eA eR' eA' hn
      go_enter Tryz.func15, Tryz.ntmps15
      go_upto_region 4 with (first
        | (go_at_call 42; refine HO.out.mono ?_; rintro e w2 ⟨rfl, hb⟩; have H2 := Lib.hid hb; clear hb)
        | (refine wpl_allocS (s := rfS) rfl rfl rfl ?_)
        | (refine wpl_storeS (s := rfS) (t := x) (b := w2.heap.size) _ _ rfl rfl rfl rfl rfl (World.alloc_heap_new w2 _) (zeroS rfS) ?_; rw [newS])
        | fail)
      obtain ⟨w3, b9, hw3, hb9, -, ⟨tb, cap, c0, cd⟩, c1, c38, hres⟩ := HST.out w2 H2.out
      rw [← hw3, ← hb9]
      rw [HBK.out] at c38
      have HRES := Lib.hid hres
      clear hw3 hb9 hres
      go_upto_region 8 with fail
      go_still_tail 11, (by kernel_rfl)
      change wpList _ _ _ _ _ w3.drew
      cases Decidable.em (Es = 0) with
      | inl q =>
        have HQ := Lib.hid q
        subst q
        go_upto_region 9 with (first
          | (go_at_call 39; refine HRES.out.mono ?_; rintro e w4 ⟨rfl, -, hok⟩; obtain ⟨d38, f38, lx, hset⟩ := hok rfl; have HSET := Lib.hid hset; clear hok hset)
          | fail)
        go_wp2_with (first
          | (go_at_call 41; refine HSET.out.mono ?_; rintro e w6 ⟨rfl, hto⟩; have H6 := Lib.hid hto; clear hto)
          | fail)
        go_ret
        refine ⟨rfl, ?_⟩
        rw [HE.out.1 (by first | rfl | trivial), HE.out.2.1 (by first | rfl | trivial)]
        exact H6.out
      | inr q =>
        have q1 : (Es != 0) = true := by simpa using q
        have HQ := Lib.hid q
        clear q
        go_upto_region 9 with (first
          | (go_at_call 39; refine HRES.out.mono ?_; rintro e w4 ⟨rfl, hto, -⟩; have H4 := Lib.hid (hto HQ.out); clear hto)
          | fail)
        go_wp2_with fail
        go_ret
        refine ⟨rfl, ?_⟩
        rw [HE.out.2.2.1 HQ.out, HE.out.2.2.2 HQ.out]
        exact H4.out
    · have eE : depE ts R A M a k = 5 := by unfold depE; rw [if_neg (by omega), ← hx, if_pos hbk]
      have eR : depR ts R A M a k = R := by unfold depR; rw [eE, if_neg (by decide)]
      have eA : depA ts R A M a k = A := by unfold depA; rw [eE, if_neg (by decide)]
      rw [eE, eR, eA]
      have q1 : (x.bk != -1) = true := by simpa using hbk
      have c38 : ∀ w2 : World, (w2.alloc (rfS.obj x)).cell? ⟨w2.heap.size, 38, none⟩ = some (.int .i64 x.bk) := fun w2 => (rf_at (atS rfS w2 x)).2.2.2.2.2.2.1
      obtain ⟨bk, hbk'⟩ : ∃ bk, bk = x.bk := ⟨_, rfl⟩
      rw [← hbk'] at q1 c38
      have HH := Lib.hid h
      have HO := Lib.hid hong
      have HC := Lib.hid c38
      clear h hre hong hi ha hr h0 hk hst hv hmem hx htk htl ht eD hbk eE eR eA hbk' c38
      go_enter Tryz.func15, Tryz.ntmps15
      go_wp2_with (first
        | (go_at_call 42; refine HO.out.mono ?_; rintro e w2 ⟨rfl, hb⟩; have H2 := Lib.hid hb; clear hb)
        | (refine wpl_allocS (s := rfS) rfl rfl rfl ?_)
        | (refine wpl_storeS (s := rfS) (t := x) (b := w2.heap.size) _ _ rfl rfl rfl rfl rfl (World.alloc_heap_new w2 _) (zeroS rfS) ?_; rw [newS]; have c38 := HC.out w2)
        | fail)
      go_ret
      exact ⟨rfl, RvTo.of_below HH.out (H2.out.alloc H2.out.size _)⟩
end
end Go.Proofs.YtpkamfbjgdmmoaaGreat
end

section
namespace Go.Proofs.YtpkamfbjgdmmoaaGreat
open Go.RowKit Go.Maps Go.Shelf
set_option linter.unusedVariables false
set_option linter.unusedSimpArgs false

theorem ownR_one {P : Program} {α : Type} {r : RowTy P α} {B b : Nat} {x : α} {w : World} (h : w.heap[b]? = some (.cells (r.f x).toArray r.T (0, 0))) (hB : B ≤ b) : OwnR r B (.slice (some ⟨b, 0, none⟩) 1 1) [x] w :=
  ⟨by rw [r.all_one, r.len]; simp, .inr ⟨b, 1, _, rfl, hB, h, Nat.le_refl _, by unfold maxLen; omega, by simp [r.len], by rw [r.all_one]; exact List.take_of_length_le (by rw [r.len]; simp)⟩⟩
/-- From w on: refer, ledger, voting; at b9 a referendum, in v events. -/
structure KS (r g vb N : Nat) (ts : List Trk) (Z : FP) (w : World) (b9 : Nat) (R : List Rfm) (S : Vs) (A : Acc) (M : Cls Int) (y : Rfm) (evs : List Ev) (v : Value) (wx : World) : Prop where
  at_ : ∃ Z1, RvAt r g vb N ts R S A M Z1 wx ∧ (∀ j, Z1 j → Z j ∨ w.heap.size ≤ j) ∧ ¬ Z1 b9 ∧ ∀ j, v.ownBlock = some j → ¬ Z1 j
  only : Only Z (fun _ => False) w wx
  bx : RfBox wx b9 y
  new : w.heap.size ≤ b9
  own : OwnR evR w.heap.size v evs wx
  ne : ∀ j, v.ownBlock = some j → j ≠ b9
section
variable {r g vb N : Nat} {ts : List Trk} {R R' : List Rfm} {S S' : Vs} {A A' : Acc} {M M' : Cls Int} {Z : FP} {w w2 wx w' : World} {b9 : Nat} {x y y' : Rfm} {evs : List Ev} {v : Value}
theorem KS.start (h : RvAt r g vb N ts R S A M Z w) (hb : Below w.heap.size w w2) (x : Rfm) : KS r g vb N ts Z w w2.heap.size R S A M x [] (.slice none 0 0) (w2.alloc (rfS.obj x)) := by
  have hb3 : Below w.heap.size w (w2.alloc (rfS.obj x)) := hb.alloc hb.size _
  have hs := hb.size
  exact ⟨⟨Z, h.below hb3, fun j hj => .inl hj, fun hf => by have := h.lt hf; omega, fun j hj => by cases hj⟩, Only.of_later hb3, World.alloc_heap_new w2 _, hs, OwnR.nil _ _, fun j hj => by cases hj⟩
theorem KS.size (h : KS r g vb N ts Z w b9 R S A M y evs v wx) : w.heap.size ≤ wx.heap.size := h.only.grow.size
theorem KS.fin (h : KS r g vb N ts Z w b9 R S A M y evs v wx) : RvTo r g vb N ts R S A M Z w wx ∧ OwnR evR w.heap.size v evs wx := by
  obtain ⟨Z1, h1, h2, -, -⟩ := h.at_
  exact ⟨⟨Z1, h1, h2, h.only⟩, h.own⟩
/-- A step of theirs. -/
theorem KS.step (h : KS r g vb N ts Z w b9 R S A M y evs v wx) (hk : ∀ Z1, RvAt r g vb N ts R S A M Z1 wx → RvTo r g vb N ts R' S' A' M' Z1 wx w') : KS r g vb N ts Z w b9 R' S' A' M' y evs v w' := by
  obtain ⟨Z1, h1, h2, h3, h4⟩ := h.at_
  obtain ⟨Z2, k1, k2, k3⟩ := hk Z1 h1
  have hs := h.size
  have hbl := h.bx.lt
  refine ⟨⟨Z2, k1, fun j hj => (k2 j hj).elim (h2 j) (fun e => .inr (by omega)), fun e => (k2 _ e).elim h3 (fun e => by omega), fun j hj e => (k2 _ e).elim (h4 j hj) (fun e => by have := (h.own.block hj).2; omega)⟩, only_cons h.only h2 k3, (k3.block _ hbl h3 (fun h => h)).trans h.bx, h.new, h.own.of (Nat.le_refl _) (fun j hj => k3.block j (h.own.block hj).2 (h4 j hj) (fun h => h)), h.ne⟩
theorem KS.below (h : KS r g vb N ts Z w b9 R S A M y evs v wx) (hb : Below wx.heap.size wx w') : KS r g vb N ts Z w b9 R S A M y evs v w' := h.step (fun Z1 h1 => RvTo.of_below h1 hb)
theorem KS.setCell (h : KS r g vb N ts Z w b9 R S A M y evs v wx) {i : Nat} {u : Value} (hi : (rfF y).set i u = rfF y') : KS r g vb N ts Z w b9 R S A M y' evs v (wx.setCell ⟨b9, i, none⟩ u) := by
  obtain ⟨Z1, h1, h2, h3, h4⟩ := h.at_
  have hg : Grow wx (wx.setCell ⟨b9, i, none⟩ u) := ⟨rfl, rfl, rfl, by simp [World.setCell]⟩
  have ho : ∀ j, j ≠ b9 → (wx.setCell ⟨b9, i, none⟩ u).heap[j]? = wx.heap[j]? := fun j hj => Below.heap_setCell _ _ _ j hj
  have hn := h.new
  exact ⟨⟨Z1, h1.keep hg (fun j hj => ho j (fun e => h3 (e ▸ hj))), h2, h3, h4⟩, ⟨h.only.grow.trans hg, fun j hj h5 h6 => (ho j (by omega)).trans (h.only.block j hj h5 h6)⟩, h.bx.set hi, h.new, h.own.of (Nat.le_refl _) (fun j hj => ho j (h.ne j hj)), h.ne⟩
/-- One event, a row of its own. -/
theorem KS.oneE (h : KS r g vb N ts Z w b9 R S A M y evs v wx) (ev : Ev) : KS r g vb N ts Z w b9 R S A M y [ev] (.slice (some ⟨wx.heap.size, 0, none⟩) 1 1) (wx.alloc (.cells (evR.f ev).toArray 68)) := by
  have hb : Below wx.heap.size wx (wx.alloc (.cells (evR.f ev).toArray 68)) := (Below.refl _ wx).alloc (Nat.le_refl _) _
  have h' := h.below hb
  obtain ⟨Z1, h1, h2, h3, h4⟩ := h.at_
  have hs := h.size
  have hbl := h.bx.lt
  exact ⟨⟨Z1, h1.below hb, h2, h3, fun j hj e => by injection hj with hj; have := h1.lt e; simp only at hj; omega⟩, h'.only, h'.bx, h'.new, ownR_one (World.alloc_heap_new wx _) hs, fun j hj => by injection hj with hj; simp only at hj; omega⟩
/-- One event more, appended. -/
theorem KS.app (h : KS r g vb N ts Z w b9 R S A M y evs v wx) {V : World} (hV : Below wx.heap.size wx V) {ev : Ev} {v' : Value} (hO : OwnR evR w.heap.size v' (evs ++ [ev]) w') (hg : V.grownBy w' v.ownBlock) (hat : v'.ownBlock = v.ownBlock ∨ v'.ownBlock = some V.heap.size) : KS r g vb N ts Z w b9 R S A M y (evs ++ [ev]) v' w' := by
  obtain ⟨Z1, h1, h2, h3, h4⟩ := h.at_
  have hs := h.size
  have hsV := hV.size
  have hsg := hg.size
  have hgr : Grow wx w' := (Grow.of_below hV).trans ⟨hg.os, hg.tape, hg.output, hg.size⟩
  have ho : ∀ j, j < wx.heap.size → v.ownBlock ≠ some j → w'.heap[j]? = wx.heap[j]? := fun j hj hv => (hg.block j (by omega) (fun e => hv e.symm)).trans (hV.block j hj)
  have hbl := h.bx.lt
  have hZn : ∀ j, v'.ownBlock = some j → ¬ Z1 j := fun j hj => by
    rcases hat with e | e
    · exact h4 j (by rw [← e]; exact hj)
    · rw [hj] at e
      injection e with e
      exact fun hf => by have := h1.lt hf; omega
  have hnb : ∀ j, v'.ownBlock = some j → j ≠ b9 := fun j hj => by
    rcases hat with e | e
    · exact h.ne j (by rw [← e]; exact hj)
    · rw [hj] at e
      injection e with e
      omega
  exact ⟨⟨Z1, h1.keep hgr (fun j hj => ho j (h1.lt hj) (fun e => h4 j e hj)), h2, h3, hZn⟩, ⟨h.only.grow.trans hgr, fun j hj h5 h6 => (ho j (by omega) (fun e => by have := (h.own.block e).1; omega)).trans (h.only.block j hj h5 h6)⟩, (ho b9 hbl (fun e => h.ne b9 e rfl)).trans h.bx, h.new, hO, hnb⟩
theorem KS.drew (h : KS r g vb N ts Z w b9 R S A M y evs v wx) : KS r g vb N ts Z w b9 R S A M y evs v wx.drew := h.below (Below.refl _ _).drew
/-- The contracts. -/
theorem KS.slash (h : KS r g vb N ts Z w b9 R S A M y evs v wx) (a n : Int) : Calls Tryz.prog 67 #[.pointer (some ⟨g, 0, none⟩), .int .i64 a, .int .i64 n] wx fun e w' => e = .returned (.agg #[.int .i64 6, .int .i64 a, .int .i64 (heldM A a n)]) ∧ KS r g vb N ts Z w b9 R S (unheld A a n 0) M y evs v w' := by
  obtain ⟨Z1, h1, h2, h3, h4⟩ := h.at_
  obtain ⟨FL, hld, lift⟩ := h1.ld
  refine (refer_slash hld a n).mono ?_
  rintro e w' ⟨he, hto⟩
  refine ⟨he, ?_⟩
  have ht := lift _ _ _ hto
  have hs := h.size
  have hbl := h.bx.lt
  obtain ⟨Z2, k1, k2, k3⟩ := ht
  exact ⟨⟨Z2, k1, fun j hj => (k2 j hj).elim (h2 j) (fun e => .inr (by omega)), fun e => (k2 _ e).elim h3 (fun e => by omega), fun j hj e => (k2 _ e).elim (h4 j hj) (fun e => by have := (h.own.block hj).2; omega)⟩, only_cons h.only h2 k3, (k3.block _ hbl h3 (fun h => h)).trans h.bx, h.new, h.own.of (Nat.le_refl _) (fun j hj => k3.block j (h.own.block hj).2 (h4 j hj) (fun h => h)), h.ne⟩
/-- A step out of one footprint of theirs. -/
theorem KS.via (h : KS r g vb N ts Z w b9 R S A M y evs v wx) : ∃ Z1, RvAt r g vb N ts R S A M Z1 wx ∧ ∀ R' S' A' M' w', RvTo r g vb N ts R' S' A' M' Z1 wx w' → KS r g vb N ts Z w b9 R' S' A' M' y evs v w' := by
  obtain ⟨Z1, h1, h2, h3, h4⟩ := h.at_
  refine ⟨Z1, h1, fun R' S' A' M' w' ht => ?_⟩
  have hs := h.size
  have hbl := h.bx.lt
  obtain ⟨Z2, k1, k2, k3⟩ := ht
  exact ⟨⟨Z2, k1, fun j hj => (k2 j hj).elim (h2 j) (fun e => .inr (by omega)), fun e => (k2 _ e).elim h3 (fun e => by omega), fun j hj e => (k2 _ e).elim (h4 j hj) (fun e => by have := (h.own.block hj).2; omega)⟩, only_cons h.only h2 k3, (k3.block _ hbl h3 (fun h => h)).trans h.bx, h.new, h.own.of (Nat.le_refl _) (fun j hj => k3.block j (h.own.block hj).2 (h4 j hj) (fun h => h)), h.ne⟩
theorem KS.release (h : KS r g vb N ts Z w b9 R S A M y evs v wx) (a n : Int) : Calls Tryz.prog 66 #[.pointer (some ⟨g, 0, none⟩), .int .i64 a, .int .i64 n] wx fun e w' => e = .returned (.int .i64 (heldM A a n)) ∧ KS r g vb N ts Z w b9 R S (unheld A a n a) M y evs v w' := by
  obtain ⟨Z1, h1, lift⟩ := h.via
  obtain ⟨FL, hld, lift2⟩ := h1.ld
  exact (ledger_ReleaseX hld a n).mono fun e w' ⟨he, hto⟩ => ⟨he, lift _ _ _ _ _ (lift2 _ _ _ hto)⟩
theorem KS.set (h : KS r g vb N ts Z w b9 R S A M y evs v wx) {k : Nat} (hk : k < R.length) (hl : R.length ≤ 12) (x : Rfm) : Calls Tryz.prog 41 #[.pointer (some ⟨r, 0, none⟩), .int .i64 k, .agg (rfS.f x).toArray] wx fun e w' => e = .returned (.tuple #[]) ∧ KS r g vb N ts Z w b9 (R.set k x) S A M y evs v w' := by
  obtain ⟨Z1, h1, lift⟩ := h.via
  obtain ⟨FR, hre, lift2⟩ := h1.re
  exact (refer_set hre hre.size (R' := R.set k x) (by omega) (by omega) x (by rw [if_pos hk])).mono fun e w' ⟨he, hto⟩ => ⟨he, lift _ _ _ _ _ (lift2 _ _ hto)⟩
theorem KS.en (h : KS r g vb N ts Z w b9 R S A M y evs v wx) {k : Nat} (hk : k < R.length) (hl : R.length ≤ 12) (st now : Int) :
    Calls Tryz.prog 60 #[.pointer (some ⟨r, 0, none⟩), .pointer (some ⟨vb, 0, none⟩), .int .i64 k, .pointer (some ⟨b9, 0, none⟩), .int .i64 st, .int .i64 now] wx fun e w' => e = .returned (.agg #[.int .i64 1, .int .i64 k, .int .i64 st]) ∧ KS r g vb N ts Z w b9 (R.set k (endX y st now (tallyOf S k))) (closeS S k st now) A M (endX y st now (tallyOf S k)) evs v w' := by
  obtain ⟨Z1, h1, h2, h3, h4⟩ := h.at_
  refine (refer_end h1 hk hl h.bx h3 st now).mono ?_
  rintro e w' ⟨he, Z2, k1, k2, k3, hy⟩
  have hs := h.size
  have hbl := h.bx.lt
  have hn := h.new
  refine ⟨he, ⟨Z2, k1, fun j hj => (k2 j hj).elim (h2 j) (fun e => .inr (by omega)), fun e => (k2 _ e).elim h3 (fun e => by omega), fun j hj e => (k2 _ e).elim (h4 j hj) (fun e => by have := (h.own.block hj).2; omega)⟩, ⟨h.only.grow.trans k3.grow, fun j hj h5 h6 => ?_⟩, hy, h.new, h.own.of (Nat.le_refl _) (fun j hj => k3.block j (h.own.block hj).2 (fun e => e.elim (h4 j hj) (h.ne j hj)) (fun h => h)), h.ne⟩
  exact (k3.block j (by omega) (fun e => e.elim (fun e => (h2 j e).elim h5 (fun e => by omega)) (fun e => by omega)) (fun h => h)).trans (h.only.block j hj h5 h6)
/-- The place's cells. -/
theorem KS.cells (h : KS r g vb N ts Z w b9 R S A M y evs v wx) : wx.cell? ⟨b9, 0, none⟩ = some (.int .i64 y.st) ∧ wx.cell? ⟨b9, 1, none⟩ = some (.int .i64 y.tr) ∧ wx.cell? ⟨b9, 36, none⟩ = some (.int .i64 y.who) ∧ wx.cell? ⟨b9, 37, none⟩ = some (.bool y.put) ∧ wx.cell? ⟨b9, 38, none⟩ = some (.int .i64 y.bk) ∧ wx.cell? ⟨b9, 40, none⟩ = some (.int .i64 y.un) ∧ (∀ i, wx.frozen? ⟨b9, i, none⟩ = false) ∧ (loadSt_R (.pointer (some ⟨b9, 0, none⟩))).run Tryz.prog wx = .ok (.agg (rfS.f y).toArray) wx := by
  obtain ⟨x0, x1, -, -, x36, x37, x38, x39, x40, x41⟩ := rf_at h.bx.range
  exact ⟨x0, x1, x36, x37, x38, x40, fun i => h.bx.frozen i, run_loadSt_R h.bx.range⟩
/-- The deposit of its track. -/
theorem KS.track (h : KS r g vb N ts Z w b9 R S A M y evs v wx) {tk : Nat} (hk : tk < ts.length) : ∃ tb cap, wx.cell? ⟨r, 0, none⟩ = some (.slice (some ⟨tb, 0, none⟩) ts.length cap) ∧ wx.cell? ⟨tb, tk * 18 + 1, none⟩ = some (.int .i64 ts[tk].dep) := by
  obtain ⟨Z1, h1, -, -, -⟩ := h.at_
  obtain ⟨FR, hre, -⟩ := h1.re
  obtain ⟨tb, cap, gb, c0, -, htb, -⟩ := hre.cells
  exact ⟨tb, cap, c0, (trk_at htb hk) 1 _ rfl⟩
/-- The tracks, where they lie; a step of the ledger leaves them. -/
theorem RvAt.ldr (h : RvAt r g vb N ts R S A M Z w) {tk : Nat} (hk : tk < ts.length) : ∃ FL tb cap, LdX g N A M FL w ∧ (∀ A' M' w', LdTo g N A' M' FL w w' → RvTo r g vb N ts R S A' M' Z w w') ∧ ¬ FL r ∧ ¬ FL tb ∧ Z r ∧ Z tb ∧ r < w.heap.size ∧ tb < w.heap.size ∧ w.cell? ⟨r, 0, none⟩ = some (.slice (some ⟨tb, 0, none⟩) ts.length cap) ∧ w.cell? ⟨tb, tk * 18 + 1, none⟩ = some (.int .i64 ts[tk].dep) := by
  have h0 := h
  obtain ⟨FR, Zn, h1, h2, h3, h4⟩ := h
  obtain ⟨tb, cap, gb, FG, k1, k2, k3, k4, k5, k6, k7, k8, k9⟩ := h1
  have hr : FR r := (k9 r).2 (.inl rfl)
  have ht : FR tb := (k9 tb).2 (.inr (.inl rfl))
  obtain ⟨F, FL, q1, q2, q3, q4⟩ := h2
  have hZn : ∀ k, FL k → Zn k := fun k hk => (q4 k).2 (.inr hk)
  have hlift : ∀ A' M' w', LdTo g N A' M' FL w w' → RvTo r g vb N ts R S A' M' Z w w' := fun A' M' w' ⟨F', e1, e2, e3⟩ => by
    refine ⟨fun k => FR k ∨ F k ∨ F' k, ⟨FR, fun k => F k ∨ F' k, ⟨tb, cap, gb, FG, (e3.block r (Array.getElem?_eq_some_iff.1 k1).1 (fun e => h3 r hr (hZn r e)) (fun h => h)).trans k1, rangeAt_block k2 (e3.block tb k3 (fun e => h3 tb ht (hZn tb e)) (fun h => h)), Nat.lt_of_lt_of_le k3 e3.grow.size, k4.keep e3.grow (fun k hf => e3.block k (k4.2.2.1 k hf) (fun e => h3 k ((k9 k).2 (.inr (.inr hf))) (hZn k e)) (fun h => h)), k5, k6, k7, k8, k9⟩, ⟨F, F', q1.keep e3.grow (fun k hf => e3.block k (q1.lt hf) (fun e => q3 k hf e) (fun h => h)), e1, fun k hf hl => (e2 k hl).elim (fun e => q3 k hf e) (fun e => by have := q1.lt hf; omega), fun k => Iff.rfl⟩, fun k hf hl => ?_, fun k => Iff.rfl⟩, fun k hf => ?_, e3.grow, fun k hk' h5 h6 => e3.block k hk' (fun e => h5 ((h4 k).2 (.inr (hZn k e)))) h6⟩
    · rcases hl with e | e
      · exact h3 k hf ((q4 k).2 (.inl e))
      · rcases e2 k e with e | e
        · exact h3 k hf (hZn k e)
        · have hkl : k < w.heap.size := by
            rcases (k9 k).1 hf with rfl | rfl | e'
            · exact (Array.getElem?_eq_some_iff.1 k1).1
            · exact k3
            · exact k4.2.2.1 k e'
          omega
    · rcases hf with e | e | e
      · exact .inl ((h4 k).2 (.inl e))
      · exact .inl ((h4 k).2 (.inr ((q4 k).2 (.inl e))))
      · exact (e2 k e).imp (fun e => (h4 k).2 (.inr (hZn k e))) id
  exact ⟨FL, tb, cap, q2, hlift, fun e => h3 r hr (hZn r e), fun e => h3 tb ht (hZn tb e), (h4 r).2 (.inl hr), (h4 tb).2 (.inl ht), (Array.getElem?_eq_some_iff.1 k1).1, k3, by rw [World.cell?, k1]; rfl, (trk_at k2 hk) 1 _ rfl⟩
/-- Slash, with the tracks' places kept. -/
theorem KS.slashT (h : KS r g vb N ts Z w b9 R S A M y evs v wx) {tk : Nat} (hk : tk < ts.length) : ∃ tb cap, wx.cell? ⟨r, 0, none⟩ = some (.slice (some ⟨tb, 0, none⟩) ts.length cap) ∧ wx.cell? ⟨tb, tk * 18 + 1, none⟩ = some (.int .i64 ts[tk].dep) ∧ r < wx.heap.size ∧ tb < wx.heap.size ∧ (∀ j, v.ownBlock = some j → j ≠ r ∧ j ≠ tb) ∧ r ≠ b9 ∧ tb ≠ b9 ∧
    ∀ a n, Calls Tryz.prog 67 #[.pointer (some ⟨g, 0, none⟩), .int .i64 a, .int .i64 n] wx fun e w' => e = .returned (.agg #[.int .i64 6, .int .i64 a, .int .i64 (heldM A a n)]) ∧ KS r g vb N ts Z w b9 R S (unheld A a n 0) M y evs v w' ∧ w'.heap[r]? = wx.heap[r]? ∧ w'.heap[tb]? = wx.heap[tb]? ∧ w'.heap[b9]? = wx.heap[b9]? ∧ wx.heap.size ≤ w'.heap.size := by
  have h0 := h
  obtain ⟨Z1, h1, h2, h3, h4⟩ := h.at_
  obtain ⟨FL, tb, cap, hld, lift, n1, n2, z1, z2, l1, l2, c1, c2⟩ := h1.ldr hk
  refine ⟨tb, cap, c1, c2, l1, l2, fun j hj => ⟨fun e => h4 j hj (e ▸ z1), fun e => h4 j hj (e ▸ z2)⟩, fun e => h3 (e ▸ z1), fun e => h3 (e ▸ z2), fun a n => ?_⟩
  refine (refer_slash hld a n).mono ?_
  rintro e w' ⟨he, hto⟩
  have ht := lift _ _ _ hto
  obtain ⟨F', e1, e2, e3⟩ := hto
  have hs := h.size
  have hbl := h.bx.lt
  obtain ⟨Z2, k1, k2, k3⟩ := ht
  refine ⟨he, ?_, e3.block r l1 n1 (fun h => h), e3.block tb l2 n2 (fun h => h), k3.block b9 hbl h3 (fun h => h), e3.grow.size⟩
  exact ⟨⟨Z2, k1, fun j hj => (k2 j hj).elim (h2 j) (fun e => .inr (by omega)), fun e => (k2 _ e).elim h3 (fun e => by omega), fun j hj e => (k2 _ e).elim (h4 j hj) (fun e => by have := (h.own.block hj).2; omega)⟩, only_cons h.only h2 k3, (k3.block _ hbl h3 (fun h => h)).trans h.bx, h.new, h.own.of (Nat.le_refl _) (fun j hj => k3.block j (h.own.block hj).2 (h4 j hj) (fun h => h)), h.ne⟩
end
end Go.Proofs.YtpkamfbjgdmmoaaGreat
end

section
namespace Go.Proofs.YtpkamfbjgdmmoaaGreat
open Go.RowKit Go.Maps Go.Shelf
set_option linter.unusedVariables false
set_option linter.unusedSimpArgs false

/-- What Cancel leaves. -/
def endR (R : List Rfm) (S : Vs) (ref st now : Int) : List Rfm := if ongE R ref = 0 then R.set ref.toNat (endX (refAt R ref) st now (tallyOf S ref)) else R
def endS (R : List Rfm) (S : Vs) (ref st now : Int) : Vs := if ongE R ref = 0 then closeS S ref st now else S
def canEv (R : List Rfm) (ref : Int) : List Ev := if ongE R ref = 0 then [(1, ref, 5)] else []
section
variable {r g vb N : Nat} {ts : List Trk} {R : List Rfm} {S : Vs} {A : Acc} {M : Cls Int} {Z : FP} {w : World}
set_option maxRecDepth 100000 in
set_option maxHeartbeats 4000000 in
attribute [local go_sem ↓] loadSt_R_hide in
theorem refer_Cancel (h : RvAt r g vb N ts R S A M Z w) (hi : Rin ts R) {ref : Int} (hr : (Lit.int .i64 ref).wf = true) (now : Int) :
    Calls Tryz.prog 26 #[.pointer (some ⟨r, 0, none⟩), .pointer (some ⟨vb, 0, none⟩), .int .i64 ref, .int .i64 now] w fun e w' => ∃ v, e = .returned (.tuple #[v, .int .i64 (ongE R ref)]) ∧ RvTo r g vb N ts (endR R S ref 5 now) (endS R S ref 5 now) A M Z w w' ∧ OwnR evR w.heap.size v (canEv R ref) w' := by
  obtain ⟨FR, hre, -⟩ := h.re
  have hong := refer_ongoing hre hr
  rcases ongE_cases R ref with ⟨hne, -⟩ | ⟨h0, k, rfl, hk, hst, hv, hmem⟩
  · have eR : endR R S ref 5 now = R := by unfold endR; rw [if_neg hne]
    have eS : endS R S ref 5 now = S := by unfold endS; rw [if_neg hne]
    have eV : canEv R ref = [] := by unfold canEv; rw [if_neg hne]
    obtain ⟨E1, hE1⟩ : ∃ E, E = ongE R ref := ⟨_, rfl⟩
    obtain ⟨v, hv⟩ : ∃ v, v = ongV R ref := ⟨_, rfl⟩
    rw [← hE1, ← hv] at hong
    rw [eR, eS, eV, ← hE1]
    have q1 : (E1 != 0) = true := by rw [hE1]; simpa using hne
    have HH := Lib.hid h
    have HO := Lib.hid hong
    clear h hre hong hE1 hv eR eS eV hne hi hr
    go_enter Tryz.func26, Tryz.ntmps26
    go_wp2_with (first
      | (go_at_call 42; refine HO.out.mono ?_; rintro e w2 ⟨rfl, hb⟩; have H2 := Lib.hid hb; clear hb)
      | (refine wpl_allocS (s := rfS) rfl rfl rfl ?_)
      | (refine wpl_storeS (s := rfS) (t := v) (b := w2.heap.size) _ _ rfl rfl rfl rfl rfl (World.alloc_heap_new w2 _) (zeroS rfS) ?_; rw [newS])
      | fail)
    exact bodyPost_ret (v := .tuple #[.slice none 0 0, .int .i64 E1]) (by simp [results, Tryz.results26, go_sem]) rfl ⟨_, rfl, RvTo.of_below HH.out (H2.out.alloc H2.out.size _), OwnR.nil _ _⟩
  · obtain ⟨x, hx⟩ : ∃ x, x = refAt R k := ⟨_, rfl⟩
    rw [hv, h0, ← hx] at hong
    have eR : endR R S k 5 now = R.set k (endX x 5 now (tallyOf S k)) := by unfold endR; rw [if_pos h0, ← hx, Int.toNat_natCast]
    have eS : endS R S k 5 now = closeS S k 5 now := by unfold endS; rw [if_pos h0]
    have eV : canEv R k = [(1, (k : Int), 5)] := by unfold canEv; rw [if_pos h0]
    rw [eR, eS, eV, h0]
    have hks : ∀ w2, Below w.heap.size w w2 → KS r g vb N ts Z w w2.heap.size R S A M x [] (.slice none 0 0) (w2.alloc (rfS.obj x)) := fun w2 hb => KS.start h hb x
    have HK := Lib.hid hks
    have HO := Lib.hid hong
    have HL := Lib.hid (And.intro hk hi.len)
    clear h hre hong hi hr h0 hk hst hv hmem hx eR eS eV hks
    go_enter Tryz.func26, Tryz.ntmps26
    go_upto_region 4 with (first
      | (go_at_call 42; refine HO.out.mono ?_; rintro e w2 ⟨rfl, hb⟩; have H2 := Lib.hid hb; clear hb)
      | (refine wpl_allocS (s := rfS) rfl rfl rfl ?_)
      | (refine wpl_storeS (s := rfS) (t := x) (b := w2.heap.size) _ _ rfl rfl rfl rfl rfl (World.alloc_heap_new w2 _) (zeroS rfS) ?_; rw [newS])
      | fail)
    obtain ⟨w3, hw3⟩ : ∃ w3, w3 = w2.alloc (rfS.obj x) := ⟨_, rfl⟩
    obtain ⟨b9, hb9⟩ : ∃ b9, b9 = w2.heap.size := ⟨_, rfl⟩
    have k3 := HK.out w2 H2.out
    rw [← hw3, ← hb9] at k3 ⊢
    have K3 := Lib.hid k3
    clear k3 hw3 hb9
    go_wp2_with (first
      | (go_at_call 60; refine (K3.out.en HL.out.1 HL.out.2 _ _).mono ?_; rintro e w4 ⟨rfl, hk⟩; have K4 := Lib.hid hk; clear hk)
      | fail)
    have k5 := K4.out.oneE (1, (k : Int), 5)
    exact bodyPost_ret (v := .tuple #[.slice (some ⟨w4.heap.size, 0, none⟩) 1 1, .int .i64 0]) (by simp [results, Tryz.results26, go_sem]) rfl ⟨_, rfl, k5.fin.1, k5.fin.2⟩
end
end Go.Proofs.YtpkamfbjgdmmoaaGreat
end

section
namespace Go.Proofs.YtpkamfbjgdmmoaaGreat
open Go.RowKit Go.Maps Go.Shelf
set_option linter.unusedVariables false
set_option linter.unusedSimpArgs false

def appEv (args : Array Value) : Sem Value := Builtin.append_ #[48, 48] 48 args
theorem appEv_hide (args : Array Value) : Builtin.append_ #[48, 48] 48 args = appEv args := rfl
theorem run_appEv {w : World} {B ub : Nat} {v : Value} {xs : List Ev} {y : Ev} (hown : OwnR evR B v xs w) (hr : w.rangeAt ub 0 (evR.f y)) (hlen : xs.length ≤ 1000000) (hB : B ≤ w.heap.size) :
    ∃ v' w', (appEv #[v, .slice (some ⟨ub, 0, none⟩) 1 1]).run Tryz.prog w = .ok v' w' ∧ OwnR evR B v' (xs ++ [y]) w' ∧ w.grownBy w' v.ownBlock ∧ (v'.ownBlock = v.ownBlock ∨ v'.ownBlock = some w.heap.size) ∧ v' ≠ .slice none 0 0 := run_appR (r := evR) hown hr hlen hB 48
/-- What Kill leaves. -/
def killA1 (A : Acc) (x : Rfm) : Acc := if x.put then unheld A x.who 10 0 else A
def killA2 (A : Acc) (x : Rfm) (dep : Int) : Acc := if x.bk = -1 then killA1 A x else unheld (killA1 A x) x.bk dep 0
def killX (x : Rfm) (now : Int) (t : Tl) : Rfm := { endX x 6 now t with put := false, bk := -1 }
def killV (k : Int) (A : Acc) (x : Rfm) (dep : Int) : List Ev := ([(1, k, 6)] ++ (if x.put then [(6, x.who, heldM A x.who 10)] else [])) ++ (if x.bk = -1 then [] else [(6, x.bk, heldM (killA1 A x) x.bk dep)])
def killR (R : List Rfm) (S : Vs) (ref now : Int) : List Rfm := if ongE R ref = 0 then R.set ref.toNat (killX (refAt R ref) now (tallyOf S ref)) else R
def killA (ts : List Trk) (R : List Rfm) (A : Acc) (ref : Int) : Acc := if ongE R ref = 0 then killA2 A (refAt R ref) (trkAt ts (refAt R ref).tr).dep else A
def killEv (ts : List Trk) (R : List Rfm) (A : Acc) (ref : Int) : List Ev := if ongE R ref = 0 then killV ref A (refAt R ref) (trkAt ts (refAt R ref).tr).dep else []
section
variable {r g vb N : Nat} {ts : List Trk} {R : List Rfm} {S : Vs} {A : Acc} {M : Cls Int} {Z : FP} {w : World}
set_option maxRecDepth 100000 in
set_option maxHeartbeats 4000000 in
attribute [local go_sem ↓] loadSt_R_hide appEv_hide in
theorem kill_tt (h : RvAt r g vb N ts R S A M Z w) (hl : R.length ≤ 12) {k : Nat} (hk : k < R.length) {x : Rfm} (hong : Calls Tryz.prog 42 #[.pointer (some ⟨r, 0, none⟩), .int .i64 k] w fun e w' => e = .returned (.tuple #[.agg (rfS.f x).toArray, .int .i64 0]) ∧ Below w.heap.size w w') {tk : Nat} (htk : x.tr = tk) (htl : tk < ts.length) (hput : x.put = true) (hbk : x.bk ≠ -1) (now : Int) :
    Calls Tryz.prog 24 #[.pointer (some ⟨r, 0, none⟩), .pointer (some ⟨g, 0, none⟩), .pointer (some ⟨vb, 0, none⟩), .int .i64 k, .int .i64 now] w fun e w' => ∃ v, e = .returned (.tuple #[v, .int .i64 0]) ∧ RvTo r g vb N ts (R.set k (killX x now (tallyOf S k))) (closeS S k 6 now) (killA2 A x (ts[tk]).dep) M Z w w' ∧ OwnR evR w.heap.size v (killV k A x (ts[tk]).dep) w' := by
  have hks : ∀ w2, Below w.heap.size w w2 → KS r g vb N ts Z w w2.heap.size R S A M x [] (.slice none 0 0) (w2.alloc (rfS.obj x)) := fun w2 hb => KS.start h hb x
  obtain ⟨y0, hy0⟩ : ∃ y, y = endX x 6 now (tallyOf S k) := ⟨_, rfl⟩
  obtain ⟨S1, hS1⟩ : ∃ S1, S1 = closeS S k 6 now := ⟨_, rfl⟩
  have hen : ∀ (b9 : Nat) (w3 : World), KS r g vb N ts Z w b9 R S A M x [] (.slice none 0 0) w3 → Calls Tryz.prog 60 #[.pointer (some ⟨r, 0, none⟩), .pointer (some ⟨vb, 0, none⟩), .int .i64 k, .pointer (some ⟨b9, 0, none⟩), .int .i64 6, .int .i64 now] w3 fun e w' => e = .returned (.agg #[.int .i64 1, .int .i64 k, .int .i64 6]) ∧ KS r g vb N ts Z w b9 (R.set k y0) S1 A M y0 [] (.slice none 0 0) w' := fun b9 w3 h3 => by rw [hy0, hS1]; exact h3.en hk hl 6 now
  have eX : killX x now (tallyOf S k) = { y0 with put := false, bk := -1 } := by unfold killX; rw [hy0]
  have y0p : y0.put = true := by rw [hy0]; exact hput
  have y0b : y0.bk = x.bk := by rw [hy0]; rfl
  have y0w : y0.who = x.who := by rw [hy0]; rfl
  have y0t : y0.tr = tk := by rw [hy0]; exact htk
  have eRR : ∀ y : Rfm, (R.set k y0).set k y = R.set k y := fun y => by rw [List.set_set]
  have hk0 : k < (R.set k y0).length := by rw [List.length_set]; exact hk
  have hl0 : (R.set k y0).length ≤ 12 := by rw [List.length_set]; exact hl
  rw [eX, ← hS1]
  have eA1 : killA1 A x = unheld A x.who 10 0 := by unfold killA1; rw [hput]; rfl
  have eA : killA2 A x (ts[tk]).dep = unheld (unheld A x.who 10 0) x.bk (ts[tk]).dep 0 := by unfold killA2; rw [if_neg hbk, eA1]
  have eV : killV k A x (ts[tk]).dep = ([(1, (k : Int), 6)] ++ [(6, x.who, heldM A x.who 10)]) ++ [(6, x.bk, heldM (unheld A x.who 10 0) x.bk (ts[tk]).dep)] := by unfold killV; rw [hput, eA1, if_neg hbk]; simp
  rw [eA, eV]
  have q1 : (x.bk != -1) = true := by simpa using hbk
  obtain ⟨dp, hdp⟩ : ∃ dp, dp = (ts[tk]).dep := ⟨_, rfl⟩
  rw [← hdp]
  obtain ⟨n, hn⟩ : ∃ n, n = ts.length := ⟨_, rfl⟩
  have hkI : (tk : Int) < n := by omega
  have htr : ∀ (b9 : Nat) (R' : List Rfm) (S' : Vs) (A' : Acc) (y : Rfm) (evs : List Ev) (v : Value) (wx : World), KS r g vb N ts Z w b9 R' S' A' M y evs v wx → ∃ tb cap, wx.cell? ⟨r, 0, none⟩ = some (.slice (some ⟨tb, 0, none⟩) n cap) ∧ wx.cell? ⟨tb, tk * 18 + 1, none⟩ = some (.int .i64 dp) ∧ r < wx.heap.size ∧ tb < wx.heap.size ∧ (∀ j, v.ownBlock = some j → j ≠ r ∧ j ≠ tb) ∧ r ≠ b9 ∧ tb ≠ b9 ∧
    ∀ a n, Calls Tryz.prog 67 #[.pointer (some ⟨g, 0, none⟩), .int .i64 a, .int .i64 n] wx fun e w' => e = .returned (.agg #[.int .i64 6, .int .i64 a, .int .i64 (heldM A' a n)]) ∧ KS r g vb N ts Z w b9 R' S' (unheld A' a n 0) M y evs v w' ∧ w'.heap[r]? = wx.heap[r]? ∧ w'.heap[tb]? = wx.heap[tb]? ∧ w'.heap[b9]? = wx.heap[b9]? ∧ wx.heap.size ≤ w'.heap.size := fun b9 R' S' A' y evs v wx h3 => by rw [hdp, hn]; exact h3.slashT htl
  have HTR := Lib.hid htr
  obtain ⟨bk, hbk'⟩ : ∃ bk, bk = x.bk := ⟨_, rfl⟩
  obtain ⟨who, hwho⟩ : ∃ who, who = x.who := ⟨_, rfl⟩
  rw [← hbk'] at q1 y0b ⊢
  rw [← hwho] at y0w ⊢
  have HK := Lib.hid hks
  have HO := Lib.hid hong
  have HEN := Lib.hid hen
  have HY := Lib.hid (And.intro y0p (And.intro y0b (And.intro y0w (And.intro y0t (And.intro eRR (And.intro hk0 hl0))))))
  clear h hong hk hl hks hen hy0 hS1 eX y0p y0b y0w y0t eRR hk0 hl0 hput hbk htk htl eA1 eA eV hbk' hwho hdp hn htr
  go_enter Tryz.func24, Tryz.ntmps24
  go_upto_region 4 with (first
    | (go_at_call 42; refine HO.out.mono ?_; rintro e w2 ⟨rfl, hb⟩; have H2 := Lib.hid hb; clear hb)
    | (refine wpl_allocS (s := rfS) rfl rfl rfl ?_)
    | (refine wpl_storeS (s := rfS) (t := x) (b := w2.heap.size) _ _ rfl rfl rfl rfl rfl (World.alloc_heap_new w2 _) (zeroS rfS) ?_; rw [newS])
    | fail)
  obtain ⟨w3, hw3⟩ : ∃ w3, w3 = w2.alloc (rfS.obj x) := ⟨_, rfl⟩
  obtain ⟨b9, hb9⟩ : ∃ b9, b9 = w2.heap.size := ⟨_, rfl⟩
  have k3 := HK.out w2 H2.out
  rw [← hw3, ← hb9] at k3 ⊢
  have K3 := Lib.hid k3
  clear k3 hw3 hb9
  go_upto_region 7 with (first
    | (go_at_call 60; refine (HEN.out _ _ K3.out).mono ?_; rintro e w4 ⟨rfl, hk⟩; have K4 := Lib.hid hk; clear hk)
    | fail)
  have k5 := K4.out.oneE (1, (k : Int), 6)
  obtain ⟨w5, hw5⟩ : ∃ w5, w5 = w4.alloc (.cells #[.int .i64 1, .int .i64 k, .int .i64 6] 68) := ⟨_, rfl⟩
  obtain ⟨e5, he5⟩ : ∃ e5, e5 = w4.heap.size := ⟨_, rfl⟩
  rw [show w4.alloc (.cells (evR.f (1, (k : Int), 6)).toArray 68) = w5 from hw5.symm, ← he5] at k5
  rw [← hw5, ← he5]
  have K5 := Lib.hid k5
  obtain ⟨c0, c1, c36, c37, c38, c40, fz, ld⟩ := k5.cells
  rw [HY.out.1] at c37
  rw [HY.out.2.1] at c38
  rw [HY.out.2.2.1] at c36
  rw [HY.out.2.2.2.1] at c1
  clear k5 hw5 he5
  go_upto_region 9 with (first
    | (go_at_call 67; refine (K5.out.slash _ _).mono ?_; rintro e w6 ⟨rfl, hk⟩; have K6 := Lib.hid hk; clear hk)
    | (refine wpl_appR (r := evR) (y := (6, who, heldM A who 10)) rfl rfl rfl rfl (K6.out.below ((Below.refl _ w6).alloc (Nat.le_refl _) _)).own (rangeAt_whole (T := 68) (World.alloc_heap_new w6 _)) (by simp) (by have := K6.out.size; rw [World.size_alloc]; omega) ?_; intro v7 w7 hO hg hat hne; obtain ⟨ao7, cap7, hv⟩ := hO.lenOf; replace hv : v7 = .slice ao7 2 cap7 := hv; subst hv; have K7 := Lib.hid (K6.out.app ((Below.refl _ w6).alloc (Nat.le_refl _) _) hO hg hat); clear hO hg hat hne)
    | fail)
  obtain ⟨c0, c1, c36, c37, c38, c40, fz, ld⟩ := K7.out.cells
  rw [HY.out.1] at c37
  rw [HY.out.2.1] at c38
  rw [HY.out.2.2.1] at c36
  rw [HY.out.2.2.2.1] at c1
  go_upto_region 10 with fail
  have k8 := K7.out.setCell (rf_set_put y0 false)
  obtain ⟨w8, hw8⟩ : ∃ w8, w8 = w7.setCell ⟨b9, 37, none⟩ (.bool false) := ⟨_, rfl⟩
  rw [← hw8] at k8 ⊢
  have K8 := Lib.hid k8
  obtain ⟨c0, c1, c36, c37, c38, c40, fz, ld⟩ := k8.cells
  rw [show ({ y0 with put := false } : Rfm).bk = bk from HY.out.2.1] at c38
  rw [show ({ y0 with put := false } : Rfm).tr = tk from HY.out.2.2.2.1] at c1
  clear k8 hw8
  obtain ⟨tb, cap, cr, cd, lr, lt, now_, nr9, nt9, hsl⟩ := HTR.out _ _ _ _ _ _ _ _ K8.out.drew
  have HSL := Lib.hid hsl
  have keep : ∀ W' : World, W'.heap[r]? = w8.drew.heap[r]? → W'.heap[tb]? = w8.drew.heap[tb]? → W'.heap[b9]? = w8.drew.heap[b9]? → W'.cell? ⟨b9, 38, none⟩ = some (.int .i64 bk) ∧ W'.cell? ⟨r, 0, none⟩ = some (.slice (some ⟨tb, 0, none⟩) n cap) ∧ W'.cell? ⟨b9, 1, none⟩ = some (.int .i64 tk) ∧ W'.cell? ⟨tb, tk * 18 + 1, none⟩ = some (.int .i64 dp) := fun W' h1 h2 h3 => ⟨(World.cell?_of_block (a := ⟨b9, 38, none⟩) h3).trans c38, (World.cell?_of_block (a := ⟨r, 0, none⟩) h1).trans cr, (World.cell?_of_block (a := ⟨b9, 1, none⟩) h3).trans c1, (World.cell?_of_block (a := ⟨tb, tk * 18 + 1, none⟩) h2).trans cd⟩
  have HKP := Lib.hid keep
  have lb9 : b9 < w8.heap.size := K8.out.bx.lt
  have HLT := Lib.hid (And.intro lr (And.intro lt (And.intro now_ (And.intro nr9 (And.intro nt9 lb9)))))
  have Q0 := Lib.hid (keep w8.drew rfl rfl rfl)
  clear keep hsl lr lt now_ nr9 nt9 lb9
  go_upto_region 11 with fail
  have mixed : Tryz.prog.follows .mixedOrders = true := by kernel_rfl
  go_region_held3 (fun W' => W'.cell? ⟨b9, 38, none⟩ = some (.int .i64 bk) ∧ W'.cell? ⟨r, 0, none⟩ = some (.slice (some ⟨tb, 0, none⟩) n cap) ∧ W'.cell? ⟨b9, 1, none⟩ = some (.int .i64 tk) ∧ W'.cell? ⟨tb, tk * 18 + 1, none⟩ = some (.int .i64 dp)) (first | exact Q0.out | exact Q1.out | exact Q2.out | exact Q3.out) (first
    | (go_at_call 67; refine (HSL.out _ _).mono ?_; rintro e w9 ⟨rfl, hk, e1, e2, e3, hs9⟩; have K9 := Lib.hid hk; obtain ⟨va, wa, hrun, hO, hg, hat, hne⟩ := run_appEv (y := (6, bk, heldM (unheld A who 10 0) bk dp)) (K9.out.below ((Below.refl _ w9).alloc (Nat.le_refl _) (.cells #[.int .i64 6, .int .i64 bk, .int .i64 (heldM (unheld A who 10 0) bk dp)] 68))).own (rangeAt_whole (T := 68) (World.alloc_heap_new w9 _)) (by simp) (by have := K9.out.size; rw [World.size_alloc]; omega); obtain ⟨aoa, capa, hv⟩ := hO.lenOf; replace hv : va = .slice aoa 3 capa := hv; subst hv; have Ka := Lib.hid (K9.out.app ((Below.refl _ w9).alloc (Nat.le_refl _) _) hO hg hat); have Q1 := Lib.hid (HKP.out w9 e1 e2 e3); have lw : ∀ j, j < w8.drew.heap.size → j < w9.heap.size := (fun j hj => Nat.lt_of_lt_of_le hj hs9); have Q2 := Lib.hid (HKP.out (w9.alloc (.cells #[.int .i64 6, .int .i64 bk, .int .i64 (heldM (unheld A who 10 0) bk dp)] 68)) ((Below.heap_alloc _ _ _ (lw r HLT.out.1)).trans e1) ((Below.heap_alloc _ _ _ (lw tb HLT.out.2.1)).trans e2) ((Below.heap_alloc _ _ _ (lw b9 HLT.out.2.2.2.2.2)).trans e3)); have lg : ∀ j, j < w9.heap.size → j < (w9.alloc (.cells #[.int .i64 6, .int .i64 bk, .int .i64 (heldM (unheld A who 10 0) bk dp)] 68)).heap.size := (fun j hj => by rw [World.size_alloc]; omega); have Q3 := Lib.hid (HKP.out wa ((hg.block r (lg r (lw r HLT.out.1)) (fun e => (HLT.out.2.2.1 r e.symm).1 rfl)).trans ((Below.heap_alloc _ _ _ (lw r HLT.out.1)).trans e1)) ((hg.block tb (lg tb (lw tb HLT.out.2.1)) (fun e => (HLT.out.2.2.1 tb e.symm).2 rfl)).trans ((Below.heap_alloc _ _ _ (lw tb HLT.out.2.1)).trans e2)) ((hg.block b9 (lg b9 (lw b9 HLT.out.2.2.2.2.2)) (fun e => K9.out.ne b9 e.symm rfl)).trans ((Below.heap_alloc _ _ _ (lw b9 HLT.out.2.2.2.2.2)).trans e3))); clear hk hO hg hat hne lw lg e1 e2 e3 hs9)
    | fail)
  go_upto_region 12 with fail
  obtain ⟨c0, c1, c36, c37, c38, c40, fz, ld⟩ := Ka.out.cells
  go_upto_region 13 with fail
  have kb := Ka.out.setCell (rf_set_bk ({ y0 with put := false } : Rfm) (-1))
  obtain ⟨wb, hwb⟩ : ∃ wb, wb = wa.setCell ⟨b9, 38, none⟩ (.int .i64 (-1)) := ⟨_, rfl⟩
  rw [← hwb] at kb ⊢
  have KB := Lib.hid kb
  obtain ⟨c0, c1, c36, c37, c38, c40, fz, ld⟩ := kb.cells
  clear kb hwb
  have hset := KB.out.set HY.out.2.2.2.2.2.1 HY.out.2.2.2.2.2.2 ({ ({ y0 with put := false } : Rfm) with bk := -1 } : Rfm)
  have HSET := Lib.hid hset
  clear hset
  go_wp2_with (first
    | (go_at_call 41; refine HSET.out.mono ?_; rintro e wz ⟨rfl, hk⟩; have KZ := Lib.hid hk; clear hk)
    | fail)
  obtain ⟨f1, f2⟩ := KZ.out.fin
  rw [HY.out.2.2.2.2.1] at f1
  have eY : ({ ({ y0 with put := false } : Rfm) with bk := -1 } : Rfm) = ({ y0 with put := false, bk := -1 } : Rfm) := by
    have e1 := HY.out.1
    have e2 := HY.out.2.1
    cases y0
    simp_all
  rw [eY] at f1
  exact bodyPost_ret (v := .tuple #[.slice aoa _ capa, .int .i64 0]) (by simp [results, Tryz.results24, go_sem]) rfl ⟨_, rfl, f1, f2⟩
set_option maxRecDepth 100000 in
set_option maxHeartbeats 4000000 in
attribute [local go_sem ↓] loadSt_R_hide appEv_hide in
theorem kill_tf (h : RvAt r g vb N ts R S A M Z w) (hl : R.length ≤ 12) {k : Nat} (hk : k < R.length) {x : Rfm} (hong : Calls Tryz.prog 42 #[.pointer (some ⟨r, 0, none⟩), .int .i64 k] w fun e w' => e = .returned (.tuple #[.agg (rfS.f x).toArray, .int .i64 0]) ∧ Below w.heap.size w w') {tk : Nat} (htk : x.tr = tk) (htl : tk < ts.length) (hput : x.put = true) (hbk : x.bk = -1) (now : Int) :
    Calls Tryz.prog 24 #[.pointer (some ⟨r, 0, none⟩), .pointer (some ⟨g, 0, none⟩), .pointer (some ⟨vb, 0, none⟩), .int .i64 k, .int .i64 now] w fun e w' => ∃ v, e = .returned (.tuple #[v, .int .i64 0]) ∧ RvTo r g vb N ts (R.set k (killX x now (tallyOf S k))) (closeS S k 6 now) (killA2 A x (ts[tk]).dep) M Z w w' ∧ OwnR evR w.heap.size v (killV k A x (ts[tk]).dep) w' := by
  have hks : ∀ w2, Below w.heap.size w w2 → KS r g vb N ts Z w w2.heap.size R S A M x [] (.slice none 0 0) (w2.alloc (rfS.obj x)) := fun w2 hb => KS.start h hb x
  obtain ⟨y0, hy0⟩ : ∃ y, y = endX x 6 now (tallyOf S k) := ⟨_, rfl⟩
  obtain ⟨S1, hS1⟩ : ∃ S1, S1 = closeS S k 6 now := ⟨_, rfl⟩
  have hen : ∀ (b9 : Nat) (w3 : World), KS r g vb N ts Z w b9 R S A M x [] (.slice none 0 0) w3 → Calls Tryz.prog 60 #[.pointer (some ⟨r, 0, none⟩), .pointer (some ⟨vb, 0, none⟩), .int .i64 k, .pointer (some ⟨b9, 0, none⟩), .int .i64 6, .int .i64 now] w3 fun e w' => e = .returned (.agg #[.int .i64 1, .int .i64 k, .int .i64 6]) ∧ KS r g vb N ts Z w b9 (R.set k y0) S1 A M y0 [] (.slice none 0 0) w' := fun b9 w3 h3 => by rw [hy0, hS1]; exact h3.en hk hl 6 now
  have eX : killX x now (tallyOf S k) = { y0 with put := false, bk := -1 } := by unfold killX; rw [hy0]
  have y0p : y0.put = true := by rw [hy0]; exact hput
  have y0b : y0.bk = x.bk := by rw [hy0]; rfl
  have y0w : y0.who = x.who := by rw [hy0]; rfl
  have y0t : y0.tr = tk := by rw [hy0]; exact htk
  have eRR : ∀ y : Rfm, (R.set k y0).set k y = R.set k y := fun y => by rw [List.set_set]
  have hk0 : k < (R.set k y0).length := by rw [List.length_set]; exact hk
  have hl0 : (R.set k y0).length ≤ 12 := by rw [List.length_set]; exact hl
  rw [eX, ← hS1]
  have eA1 : killA1 A x = unheld A x.who 10 0 := by unfold killA1; rw [hput]; rfl
  have eA : killA2 A x (ts[tk]).dep = unheld A x.who 10 0 := by unfold killA2; rw [if_pos hbk, eA1]
  have eV : killV k A x (ts[tk]).dep = [(1, (k : Int), 6)] ++ [(6, x.who, heldM A x.who 10)] := by unfold killV; rw [hput, eA1, if_pos hbk]; simp
  rw [eA, eV]
  have q1 : (x.bk != -1) = false := by simp [hbk]
  obtain ⟨bk, hbk'⟩ : ∃ bk, bk = x.bk := ⟨_, rfl⟩
  obtain ⟨who, hwho⟩ : ∃ who, who = x.who := ⟨_, rfl⟩
  rw [← hbk'] at q1 y0b 
  rw [← hwho] at y0w ⊢
  have HK := Lib.hid hks
  have HO := Lib.hid hong
  have HEN := Lib.hid hen
  have HY := Lib.hid (And.intro y0p (And.intro y0b (And.intro y0w (And.intro y0t (And.intro eRR (And.intro hk0 hl0))))))
  have HBK := Lib.hid (show bk = -1 by rw [hbk']; exact hbk)
  clear h hong hk hl hks hen hy0 hS1 eX y0p y0b y0w y0t eRR hk0 hl0 hput hbk htk htl eA1 eA eV hbk' hwho
  go_enter Tryz.func24, Tryz.ntmps24
  go_upto_region 4 with (first
    | (go_at_call 42; refine HO.out.mono ?_; rintro e w2 ⟨rfl, hb⟩; have H2 := Lib.hid hb; clear hb)
    | (refine wpl_allocS (s := rfS) rfl rfl rfl ?_)
    | (refine wpl_storeS (s := rfS) (t := x) (b := w2.heap.size) _ _ rfl rfl rfl rfl rfl (World.alloc_heap_new w2 _) (zeroS rfS) ?_; rw [newS])
    | fail)
  obtain ⟨w3, hw3⟩ : ∃ w3, w3 = w2.alloc (rfS.obj x) := ⟨_, rfl⟩
  obtain ⟨b9, hb9⟩ : ∃ b9, b9 = w2.heap.size := ⟨_, rfl⟩
  have k3 := HK.out w2 H2.out
  rw [← hw3, ← hb9] at k3 ⊢
  have K3 := Lib.hid k3
  clear k3 hw3 hb9
  go_upto_region 7 with (first
    | (go_at_call 60; refine (HEN.out _ _ K3.out).mono ?_; rintro e w4 ⟨rfl, hk⟩; have K4 := Lib.hid hk; clear hk)
    | fail)
  have k5 := K4.out.oneE (1, (k : Int), 6)
  obtain ⟨w5, hw5⟩ : ∃ w5, w5 = w4.alloc (.cells #[.int .i64 1, .int .i64 k, .int .i64 6] 68) := ⟨_, rfl⟩
  obtain ⟨e5, he5⟩ : ∃ e5, e5 = w4.heap.size := ⟨_, rfl⟩
  rw [show w4.alloc (.cells (evR.f (1, (k : Int), 6)).toArray 68) = w5 from hw5.symm, ← he5] at k5
  rw [← hw5, ← he5]
  have K5 := Lib.hid k5
  obtain ⟨c0, c1, c36, c37, c38, c40, fz, ld⟩ := k5.cells
  rw [HY.out.1] at c37
  rw [HY.out.2.1] at c38
  rw [HY.out.2.2.1] at c36
  rw [HY.out.2.2.2.1] at c1
  clear k5 hw5 he5
  go_upto_region 9 with (first
    | (go_at_call 67; refine (K5.out.slash _ _).mono ?_; rintro e w6 ⟨rfl, hk⟩; have K6 := Lib.hid hk; clear hk)
    | (refine wpl_appR (r := evR) (y := (6, who, heldM A who 10)) rfl rfl rfl rfl (K6.out.below ((Below.refl _ w6).alloc (Nat.le_refl _) _)).own (rangeAt_whole (T := 68) (World.alloc_heap_new w6 _)) (by simp) (by have := K6.out.size; rw [World.size_alloc]; omega) ?_; intro v7 w7 hO hg hat hne; obtain ⟨ao7, cap7, hv⟩ := hO.lenOf; replace hv : v7 = .slice ao7 2 cap7 := hv; subst hv; have K7 := Lib.hid (K6.out.app ((Below.refl _ w6).alloc (Nat.le_refl _) _) hO hg hat); clear hO hg hat hne)
    | fail)
  obtain ⟨c0, c1, c36, c37, c38, c40, fz, ld⟩ := K7.out.cells
  rw [HY.out.1] at c37
  rw [HY.out.2.1] at c38
  rw [HY.out.2.2.1] at c36
  rw [HY.out.2.2.2.1] at c1
  go_upto_region 10 with fail
  have k8 := K7.out.setCell (rf_set_put y0 false)
  obtain ⟨w8, hw8⟩ : ∃ w8, w8 = w7.setCell ⟨b9, 37, none⟩ (.bool false) := ⟨_, rfl⟩
  rw [← hw8] at k8 ⊢
  have K8 := Lib.hid k8
  obtain ⟨c0, c1, c36, c37, c38, c40, fz, ld⟩ := k8.cells
  rw [show ({ y0 with put := false } : Rfm).bk = bk from HY.out.2.1] at c38
  rw [show ({ y0 with put := false } : Rfm).tr = tk from HY.out.2.2.2.1] at c1
  clear k8 hw8
  have hset := K8.out.set HY.out.2.2.2.2.2.1 HY.out.2.2.2.2.2.2 ({ y0 with put := false } : Rfm)
  have HSET := Lib.hid hset
  clear hset
  go_wp2_with (first
    | (go_at_call 41; refine HSET.out.mono ?_; rintro e wz ⟨rfl, hk⟩; have KZ := Lib.hid hk; clear hk)
    | fail)
  obtain ⟨f1, f2⟩ := KZ.out.fin
  rw [HY.out.2.2.2.2.1] at f1
  have eY : ({ y0 with put := false } : Rfm) = ({ y0 with put := false, bk := -1 } : Rfm) := by
    have e1 := HY.out.1
    have e2 := HY.out.2.1
    have e3 := HBK.out
    cases y0
    simp_all
  rw [eY] at f1
  exact bodyPost_ret (v := .tuple #[.slice ao7 _ cap7, .int .i64 0]) (by simp [results, Tryz.results24, go_sem]) rfl ⟨_, rfl, f1, f2⟩
set_option maxRecDepth 100000 in
set_option maxHeartbeats 4000000 in
attribute [local go_sem ↓] loadSt_R_hide appEv_hide in
theorem kill_ft (h : RvAt r g vb N ts R S A M Z w) (hl : R.length ≤ 12) {k : Nat} (hk : k < R.length) {x : Rfm} (hong : Calls Tryz.prog 42 #[.pointer (some ⟨r, 0, none⟩), .int .i64 k] w fun e w' => e = .returned (.tuple #[.agg (rfS.f x).toArray, .int .i64 0]) ∧ Below w.heap.size w w') {tk : Nat} (htk : x.tr = tk) (htl : tk < ts.length) (hput : x.put = false) (hbk : x.bk ≠ -1) (now : Int) :
    Calls Tryz.prog 24 #[.pointer (some ⟨r, 0, none⟩), .pointer (some ⟨g, 0, none⟩), .pointer (some ⟨vb, 0, none⟩), .int .i64 k, .int .i64 now] w fun e w' => ∃ v, e = .returned (.tuple #[v, .int .i64 0]) ∧ RvTo r g vb N ts (R.set k (killX x now (tallyOf S k))) (closeS S k 6 now) (killA2 A x (ts[tk]).dep) M Z w w' ∧ OwnR evR w.heap.size v (killV k A x (ts[tk]).dep) w' := by
  have hks : ∀ w2, Below w.heap.size w w2 → KS r g vb N ts Z w w2.heap.size R S A M x [] (.slice none 0 0) (w2.alloc (rfS.obj x)) := fun w2 hb => KS.start h hb x
  obtain ⟨y0, hy0⟩ : ∃ y, y = endX x 6 now (tallyOf S k) := ⟨_, rfl⟩
  obtain ⟨S1, hS1⟩ : ∃ S1, S1 = closeS S k 6 now := ⟨_, rfl⟩
  have hen : ∀ (b9 : Nat) (w3 : World), KS r g vb N ts Z w b9 R S A M x [] (.slice none 0 0) w3 → Calls Tryz.prog 60 #[.pointer (some ⟨r, 0, none⟩), .pointer (some ⟨vb, 0, none⟩), .int .i64 k, .pointer (some ⟨b9, 0, none⟩), .int .i64 6, .int .i64 now] w3 fun e w' => e = .returned (.agg #[.int .i64 1, .int .i64 k, .int .i64 6]) ∧ KS r g vb N ts Z w b9 (R.set k y0) S1 A M y0 [] (.slice none 0 0) w' := fun b9 w3 h3 => by rw [hy0, hS1]; exact h3.en hk hl 6 now
  have eX : killX x now (tallyOf S k) = { y0 with put := false, bk := -1 } := by unfold killX; rw [hy0]
  have y0p : y0.put = false := by rw [hy0]; exact hput
  have y0b : y0.bk = x.bk := by rw [hy0]; rfl
  have y0w : y0.who = x.who := by rw [hy0]; rfl
  have y0t : y0.tr = tk := by rw [hy0]; exact htk
  have eRR : ∀ y : Rfm, (R.set k y0).set k y = R.set k y := fun y => by rw [List.set_set]
  have hk0 : k < (R.set k y0).length := by rw [List.length_set]; exact hk
  have hl0 : (R.set k y0).length ≤ 12 := by rw [List.length_set]; exact hl
  rw [eX, ← hS1]
  have eA1 : killA1 A x = A := by unfold killA1; rw [hput]; rfl
  have eA : killA2 A x (ts[tk]).dep = unheld (A) x.bk (ts[tk]).dep 0 := by unfold killA2; rw [if_neg hbk, eA1]
  have eV : killV k A x (ts[tk]).dep = ([(1, (k : Int), 6)]) ++ [(6, x.bk, heldM (A) x.bk (ts[tk]).dep)] := by unfold killV; rw [hput, eA1, if_neg hbk]; simp
  rw [eA, eV]
  have q1 : (x.bk != -1) = true := by simpa using hbk
  obtain ⟨dp, hdp⟩ : ∃ dp, dp = (ts[tk]).dep := ⟨_, rfl⟩
  rw [← hdp]
  obtain ⟨n, hn⟩ : ∃ n, n = ts.length := ⟨_, rfl⟩
  have hkI : (tk : Int) < n := by omega
  have htr : ∀ (b9 : Nat) (R' : List Rfm) (S' : Vs) (A' : Acc) (y : Rfm) (evs : List Ev) (v : Value) (wx : World), KS r g vb N ts Z w b9 R' S' A' M y evs v wx → ∃ tb cap, wx.cell? ⟨r, 0, none⟩ = some (.slice (some ⟨tb, 0, none⟩) n cap) ∧ wx.cell? ⟨tb, tk * 18 + 1, none⟩ = some (.int .i64 dp) ∧ r < wx.heap.size ∧ tb < wx.heap.size ∧ (∀ j, v.ownBlock = some j → j ≠ r ∧ j ≠ tb) ∧ r ≠ b9 ∧ tb ≠ b9 ∧
    ∀ a n, Calls Tryz.prog 67 #[.pointer (some ⟨g, 0, none⟩), .int .i64 a, .int .i64 n] wx fun e w' => e = .returned (.agg #[.int .i64 6, .int .i64 a, .int .i64 (heldM A' a n)]) ∧ KS r g vb N ts Z w b9 R' S' (unheld A' a n 0) M y evs v w' ∧ w'.heap[r]? = wx.heap[r]? ∧ w'.heap[tb]? = wx.heap[tb]? ∧ w'.heap[b9]? = wx.heap[b9]? ∧ wx.heap.size ≤ w'.heap.size := fun b9 R' S' A' y evs v wx h3 => by rw [hdp, hn]; exact h3.slashT htl
  have HTR := Lib.hid htr
  obtain ⟨bk, hbk'⟩ : ∃ bk, bk = x.bk := ⟨_, rfl⟩
  obtain ⟨who, hwho⟩ : ∃ who, who = x.who := ⟨_, rfl⟩
  rw [← hbk'] at q1 y0b ⊢
  rw [← hwho] at y0w
  have HK := Lib.hid hks
  have HO := Lib.hid hong
  have HEN := Lib.hid hen
  have HY := Lib.hid (And.intro y0p (And.intro y0b (And.intro y0w (And.intro y0t (And.intro eRR (And.intro hk0 hl0))))))
  clear h hong hk hl hks hen hy0 hS1 eX y0p y0b y0w y0t eRR hk0 hl0 hput hbk htk htl eA1 eA eV hbk' hwho hdp hn htr
  go_enter Tryz.func24, Tryz.ntmps24
  go_upto_region 4 with (first
    | (go_at_call 42; refine HO.out.mono ?_; rintro e w2 ⟨rfl, hb⟩; have H2 := Lib.hid hb; clear hb)
    | (refine wpl_allocS (s := rfS) rfl rfl rfl ?_)
    | (refine wpl_storeS (s := rfS) (t := x) (b := w2.heap.size) _ _ rfl rfl rfl rfl rfl (World.alloc_heap_new w2 _) (zeroS rfS) ?_; rw [newS])
    | fail)
  obtain ⟨w3, hw3⟩ : ∃ w3, w3 = w2.alloc (rfS.obj x) := ⟨_, rfl⟩
  obtain ⟨b9, hb9⟩ : ∃ b9, b9 = w2.heap.size := ⟨_, rfl⟩
  have k3 := HK.out w2 H2.out
  rw [← hw3, ← hb9] at k3 ⊢
  have K3 := Lib.hid k3
  clear k3 hw3 hb9
  go_upto_region 7 with (first
    | (go_at_call 60; refine (HEN.out _ _ K3.out).mono ?_; rintro e w4 ⟨rfl, hk⟩; have K4 := Lib.hid hk; clear hk)
    | fail)
  have k5 := K4.out.oneE (1, (k : Int), 6)
  obtain ⟨w5, hw5⟩ : ∃ w5, w5 = w4.alloc (.cells #[.int .i64 1, .int .i64 k, .int .i64 6] 68) := ⟨_, rfl⟩
  obtain ⟨e5, he5⟩ : ∃ e5, e5 = w4.heap.size := ⟨_, rfl⟩
  rw [show w4.alloc (.cells (evR.f (1, (k : Int), 6)).toArray 68) = w5 from hw5.symm, ← he5] at k5
  rw [← hw5, ← he5]
  have K5 := Lib.hid k5
  obtain ⟨c0, c1, c36, c37, c38, c40, fz, ld⟩ := k5.cells
  rw [HY.out.1] at c37
  rw [HY.out.2.1] at c38
  rw [HY.out.2.2.1] at c36
  rw [HY.out.2.2.2.1] at c1
  clear k5 hw5 he5
  obtain ⟨tb, cap, cr, cd, lr, lt, now_, nr9, nt9, hsl⟩ := HTR.out _ _ _ _ _ _ _ _ K5.out.drew
  have HSL := Lib.hid hsl
  have keep : ∀ W' : World, W'.heap[r]? = w5.drew.heap[r]? → W'.heap[tb]? = w5.drew.heap[tb]? → W'.heap[b9]? = w5.drew.heap[b9]? → W'.cell? ⟨b9, 38, none⟩ = some (.int .i64 bk) ∧ W'.cell? ⟨r, 0, none⟩ = some (.slice (some ⟨tb, 0, none⟩) n cap) ∧ W'.cell? ⟨b9, 1, none⟩ = some (.int .i64 tk) ∧ W'.cell? ⟨tb, tk * 18 + 1, none⟩ = some (.int .i64 dp) := fun W' h1 h2 h3 => ⟨(World.cell?_of_block (a := ⟨b9, 38, none⟩) h3).trans c38, (World.cell?_of_block (a := ⟨r, 0, none⟩) h1).trans cr, (World.cell?_of_block (a := ⟨b9, 1, none⟩) h3).trans c1, (World.cell?_of_block (a := ⟨tb, tk * 18 + 1, none⟩) h2).trans cd⟩
  have HKP := Lib.hid keep
  have lb9 : b9 < w5.heap.size := K5.out.bx.lt
  have HLT := Lib.hid (And.intro lr (And.intro lt (And.intro now_ (And.intro nr9 (And.intro nt9 lb9)))))
  have Q0 := Lib.hid (keep w5.drew rfl rfl rfl)
  clear keep hsl lr lt now_ nr9 nt9 lb9
  go_upto_region 11 with fail
  have mixed : Tryz.prog.follows .mixedOrders = true := by kernel_rfl
  go_region_held3 (fun W' => W'.cell? ⟨b9, 38, none⟩ = some (.int .i64 bk) ∧ W'.cell? ⟨r, 0, none⟩ = some (.slice (some ⟨tb, 0, none⟩) n cap) ∧ W'.cell? ⟨b9, 1, none⟩ = some (.int .i64 tk) ∧ W'.cell? ⟨tb, tk * 18 + 1, none⟩ = some (.int .i64 dp)) (first | exact Q0.out | exact Q1.out | exact Q2.out | exact Q3.out) (first
    | (go_at_call 67; refine (HSL.out _ _).mono ?_; rintro e w9 ⟨rfl, hk, e1, e2, e3, hs9⟩; have K9 := Lib.hid hk; obtain ⟨va, wa, hrun, hO, hg, hat, hne⟩ := run_appEv (y := (6, bk, heldM (A) bk dp)) (K9.out.below ((Below.refl _ w9).alloc (Nat.le_refl _) (.cells #[.int .i64 6, .int .i64 bk, .int .i64 (heldM (A) bk dp)] 68))).own (rangeAt_whole (T := 68) (World.alloc_heap_new w9 _)) (by simp) (by have := K9.out.size; rw [World.size_alloc]; omega); obtain ⟨aoa, capa, hv⟩ := hO.lenOf; replace hv : va = .slice aoa 2 capa := hv; subst hv; have Ka := Lib.hid (K9.out.app ((Below.refl _ w9).alloc (Nat.le_refl _) _) hO hg hat); have Q1 := Lib.hid (HKP.out w9 e1 e2 e3); have lw : ∀ j, j < w5.drew.heap.size → j < w9.heap.size := (fun j hj => Nat.lt_of_lt_of_le hj hs9); have Q2 := Lib.hid (HKP.out (w9.alloc (.cells #[.int .i64 6, .int .i64 bk, .int .i64 (heldM (A) bk dp)] 68)) ((Below.heap_alloc _ _ _ (lw r HLT.out.1)).trans e1) ((Below.heap_alloc _ _ _ (lw tb HLT.out.2.1)).trans e2) ((Below.heap_alloc _ _ _ (lw b9 HLT.out.2.2.2.2.2)).trans e3)); have lg : ∀ j, j < w9.heap.size → j < (w9.alloc (.cells #[.int .i64 6, .int .i64 bk, .int .i64 (heldM (A) bk dp)] 68)).heap.size := (fun j hj => by rw [World.size_alloc]; omega); have Q3 := Lib.hid (HKP.out wa ((hg.block r (lg r (lw r HLT.out.1)) (fun e => (HLT.out.2.2.1 r e.symm).1 rfl)).trans ((Below.heap_alloc _ _ _ (lw r HLT.out.1)).trans e1)) ((hg.block tb (lg tb (lw tb HLT.out.2.1)) (fun e => (HLT.out.2.2.1 tb e.symm).2 rfl)).trans ((Below.heap_alloc _ _ _ (lw tb HLT.out.2.1)).trans e2)) ((hg.block b9 (lg b9 (lw b9 HLT.out.2.2.2.2.2)) (fun e => K9.out.ne b9 e.symm rfl)).trans ((Below.heap_alloc _ _ _ (lw b9 HLT.out.2.2.2.2.2)).trans e3))); clear hk hO hg hat hne lw lg e1 e2 e3 hs9)
    | fail)
  go_upto_region 12 with fail
  obtain ⟨c0, c1, c36, c37, c38, c40, fz, ld⟩ := Ka.out.cells
  go_upto_region 13 with fail
  have kb := Ka.out.setCell (rf_set_bk y0 (-1))
  obtain ⟨wb, hwb⟩ : ∃ wb, wb = wa.setCell ⟨b9, 38, none⟩ (.int .i64 (-1)) := ⟨_, rfl⟩
  rw [← hwb] at kb ⊢
  have KB := Lib.hid kb
  obtain ⟨c0, c1, c36, c37, c38, c40, fz, ld⟩ := kb.cells
  clear kb hwb
  have hset := KB.out.set HY.out.2.2.2.2.2.1 HY.out.2.2.2.2.2.2 ({ y0 with bk := -1 } : Rfm)
  have HSET := Lib.hid hset
  clear hset
  go_wp2_with (first
    | (go_at_call 41; refine HSET.out.mono ?_; rintro e wz ⟨rfl, hk⟩; have KZ := Lib.hid hk; clear hk)
    | fail)
  obtain ⟨f1, f2⟩ := KZ.out.fin
  rw [HY.out.2.2.2.2.1] at f1
  have eY : ({ y0 with bk := -1 } : Rfm) = ({ y0 with put := false, bk := -1 } : Rfm) := by
    have e1 := HY.out.1
    have e2 := HY.out.2.1
    cases y0
    simp_all
  rw [eY] at f1
  exact bodyPost_ret (v := .tuple #[.slice aoa _ capa, .int .i64 0]) (by simp [results, Tryz.results24, go_sem]) rfl ⟨_, rfl, f1, f2⟩
set_option maxRecDepth 100000 in
set_option maxHeartbeats 4000000 in
attribute [local go_sem ↓] loadSt_R_hide appEv_hide in
theorem kill_ff (h : RvAt r g vb N ts R S A M Z w) (hl : R.length ≤ 12) {k : Nat} (hk : k < R.length) {x : Rfm} (hong : Calls Tryz.prog 42 #[.pointer (some ⟨r, 0, none⟩), .int .i64 k] w fun e w' => e = .returned (.tuple #[.agg (rfS.f x).toArray, .int .i64 0]) ∧ Below w.heap.size w w') {tk : Nat} (htk : x.tr = tk) (htl : tk < ts.length) (hput : x.put = false) (hbk : x.bk = -1) (now : Int) :
    Calls Tryz.prog 24 #[.pointer (some ⟨r, 0, none⟩), .pointer (some ⟨g, 0, none⟩), .pointer (some ⟨vb, 0, none⟩), .int .i64 k, .int .i64 now] w fun e w' => ∃ v, e = .returned (.tuple #[v, .int .i64 0]) ∧ RvTo r g vb N ts (R.set k (killX x now (tallyOf S k))) (closeS S k 6 now) (killA2 A x (ts[tk]).dep) M Z w w' ∧ OwnR evR w.heap.size v (killV k A x (ts[tk]).dep) w' := by
  have hks : ∀ w2, Below w.heap.size w w2 → KS r g vb N ts Z w w2.heap.size R S A M x [] (.slice none 0 0) (w2.alloc (rfS.obj x)) := fun w2 hb => KS.start h hb x
  obtain ⟨y0, hy0⟩ : ∃ y, y = endX x 6 now (tallyOf S k) := ⟨_, rfl⟩
  obtain ⟨S1, hS1⟩ : ∃ S1, S1 = closeS S k 6 now := ⟨_, rfl⟩
  have hen : ∀ (b9 : Nat) (w3 : World), KS r g vb N ts Z w b9 R S A M x [] (.slice none 0 0) w3 → Calls Tryz.prog 60 #[.pointer (some ⟨r, 0, none⟩), .pointer (some ⟨vb, 0, none⟩), .int .i64 k, .pointer (some ⟨b9, 0, none⟩), .int .i64 6, .int .i64 now] w3 fun e w' => e = .returned (.agg #[.int .i64 1, .int .i64 k, .int .i64 6]) ∧ KS r g vb N ts Z w b9 (R.set k y0) S1 A M y0 [] (.slice none 0 0) w' := fun b9 w3 h3 => by rw [hy0, hS1]; exact h3.en hk hl 6 now
  have eX : killX x now (tallyOf S k) = { y0 with put := false, bk := -1 } := by unfold killX; rw [hy0]
  have y0p : y0.put = false := by rw [hy0]; exact hput
  have y0b : y0.bk = x.bk := by rw [hy0]; rfl
  have y0w : y0.who = x.who := by rw [hy0]; rfl
  have y0t : y0.tr = tk := by rw [hy0]; exact htk
  have eRR : ∀ y : Rfm, (R.set k y0).set k y = R.set k y := fun y => by rw [List.set_set]
  have hk0 : k < (R.set k y0).length := by rw [List.length_set]; exact hk
  have hl0 : (R.set k y0).length ≤ 12 := by rw [List.length_set]; exact hl
  rw [eX, ← hS1]
  have eA1 : killA1 A x = A := by unfold killA1; rw [hput]; rfl
  have eA : killA2 A x (ts[tk]).dep = A := by unfold killA2; rw [if_pos hbk, eA1]
  have eV : killV k A x (ts[tk]).dep = [(1, (k : Int), 6)] := by unfold killV; rw [hput, eA1, if_pos hbk]; simp
  rw [eA, eV]
  have q1 : (x.bk != -1) = false := by simp [hbk]
  obtain ⟨bk, hbk'⟩ : ∃ bk, bk = x.bk := ⟨_, rfl⟩
  obtain ⟨who, hwho⟩ : ∃ who, who = x.who := ⟨_, rfl⟩
  rw [← hbk'] at q1 y0b 
  rw [← hwho] at y0w
  have HK := Lib.hid hks
  have HO := Lib.hid hong
  have HEN := Lib.hid hen
  have HY := Lib.hid (And.intro y0p (And.intro y0b (And.intro y0w (And.intro y0t (And.intro eRR (And.intro hk0 hl0))))))
  have HBK := Lib.hid (show bk = -1 by rw [hbk']; exact hbk)
  clear h hong hk hl hks hen hy0 hS1 eX y0p y0b y0w y0t eRR hk0 hl0 hput hbk htk htl eA1 eA eV hbk' hwho
  go_enter Tryz.func24, Tryz.ntmps24
  go_upto_region 4 with (first
    | (go_at_call 42; refine HO.out.mono ?_; rintro e w2 ⟨rfl, hb⟩; have H2 := Lib.hid hb; clear hb)
    | (refine wpl_allocS (s := rfS) rfl rfl rfl ?_)
    | (refine wpl_storeS (s := rfS) (t := x) (b := w2.heap.size) _ _ rfl rfl rfl rfl rfl (World.alloc_heap_new w2 _) (zeroS rfS) ?_; rw [newS])
    | fail)
  obtain ⟨w3, hw3⟩ : ∃ w3, w3 = w2.alloc (rfS.obj x) := ⟨_, rfl⟩
  obtain ⟨b9, hb9⟩ : ∃ b9, b9 = w2.heap.size := ⟨_, rfl⟩
  have k3 := HK.out w2 H2.out
  rw [← hw3, ← hb9] at k3 ⊢
  have K3 := Lib.hid k3
  clear k3 hw3 hb9
  go_upto_region 7 with (first
    | (go_at_call 60; refine (HEN.out _ _ K3.out).mono ?_; rintro e w4 ⟨rfl, hk⟩; have K4 := Lib.hid hk; clear hk)
    | fail)
  have k5 := K4.out.oneE (1, (k : Int), 6)
  obtain ⟨w5, hw5⟩ : ∃ w5, w5 = w4.alloc (.cells #[.int .i64 1, .int .i64 k, .int .i64 6] 68) := ⟨_, rfl⟩
  obtain ⟨e5, he5⟩ : ∃ e5, e5 = w4.heap.size := ⟨_, rfl⟩
  rw [show w4.alloc (.cells (evR.f (1, (k : Int), 6)).toArray 68) = w5 from hw5.symm, ← he5] at k5
  rw [← hw5, ← he5]
  have K5 := Lib.hid k5
  obtain ⟨c0, c1, c36, c37, c38, c40, fz, ld⟩ := k5.cells
  rw [HY.out.1] at c37
  rw [HY.out.2.1] at c38
  rw [HY.out.2.2.1] at c36
  rw [HY.out.2.2.2.1] at c1
  clear k5 hw5 he5
  have hset := K5.out.set HY.out.2.2.2.2.2.1 HY.out.2.2.2.2.2.2 y0
  have HSET := Lib.hid hset
  clear hset
  go_wp2_with (first
    | (go_at_call 41; refine HSET.out.mono ?_; rintro e wz ⟨rfl, hk⟩; have KZ := Lib.hid hk; clear hk)
    | fail)
  obtain ⟨f1, f2⟩ := KZ.out.fin
  rw [HY.out.2.2.2.2.1] at f1
  have eY : y0 = ({ y0 with put := false, bk := -1 } : Rfm) := by
    have e1 := HY.out.1
    have e2 := HY.out.2.1
    have e3 := HBK.out
    cases y0
    simp_all
  rw [eY] at f1
  exact bodyPost_ret (v := .tuple #[.slice (some ⟨e5, 0, none⟩) 1 1, .int .i64 0]) (by simp [results, Tryz.results24, go_sem]) rfl ⟨_, rfl, f1, f2⟩
set_option maxRecDepth 100000 in
set_option maxHeartbeats 4000000 in
attribute [local go_sem ↓] loadSt_R_hide in
theorem refer_Kill (h : RvAt r g vb N ts R S A M Z w) (hi : Rin ts R) {ref : Int} (hr : (Lit.int .i64 ref).wf = true) (now : Int) :
    Calls Tryz.prog 24 #[.pointer (some ⟨r, 0, none⟩), .pointer (some ⟨g, 0, none⟩), .pointer (some ⟨vb, 0, none⟩), .int .i64 ref, .int .i64 now] w fun e w' => ∃ v, e = .returned (.tuple #[v, .int .i64 (ongE R ref)]) ∧ RvTo r g vb N ts (killR R S ref now) (endS R S ref 6 now) (killA ts R A ref) M Z w w' ∧ OwnR evR w.heap.size v (killEv ts R A ref) w' := by
  obtain ⟨FR, hre, -⟩ := h.re
  have hong := refer_ongoing hre hr
  rcases ongE_cases R ref with ⟨hne, -⟩ | ⟨h0, k, rfl, hk, hst, hv, hmem⟩
  · have eR : killR R S ref now = R := by unfold killR; rw [if_neg hne]
    have eS : endS R S ref 6 now = S := by unfold endS; rw [if_neg hne]
    have eA : killA ts R A ref = A := by unfold killA; rw [if_neg hne]
    have eV : killEv ts R A ref = [] := by unfold killEv; rw [if_neg hne]
    obtain ⟨E1, hE1⟩ : ∃ E, E = ongE R ref := ⟨_, rfl⟩
    obtain ⟨v, hv⟩ : ∃ v, v = ongV R ref := ⟨_, rfl⟩
    rw [← hE1, ← hv] at hong
    rw [eR, eS, eA, eV, ← hE1]
    have q1 : (E1 != 0) = true := by rw [hE1]; simpa using hne
    have HH := Lib.hid h
    have HO := Lib.hid hong
    clear h hre hong hE1 hv eR eS eA eV hne hi hr
    go_enter Tryz.func24, Tryz.ntmps24
    go_wp2_with (first
      | (go_at_call 42; refine HO.out.mono ?_; rintro e w2 ⟨rfl, hb⟩; have H2 := Lib.hid hb; clear hb)
      | (refine wpl_allocS (s := rfS) rfl rfl rfl ?_)
      | (refine wpl_storeS (s := rfS) (t := v) (b := w2.heap.size) _ _ rfl rfl rfl rfl rfl (World.alloc_heap_new w2 _) (zeroS rfS) ?_; rw [newS])
      | fail)
    exact bodyPost_ret (v := .tuple #[.slice none 0 0, .int .i64 E1]) (by simp [results, Tryz.results24, go_sem]) rfl ⟨_, rfl, RvTo.of_below HH.out (H2.out.alloc H2.out.size _), OwnR.nil _ _⟩
  · obtain ⟨x, hx⟩ : ∃ x, x = refAt R k := ⟨_, rfl⟩
    rw [hv, h0, ← hx] at hong
    rw [← hx] at hmem
    obtain ⟨tk, htk, htl⟩ : ∃ tk : Nat, x.tr = tk ∧ tk < ts.length := ⟨x.tr.toNat, by have := hi.tr x hmem; omega, by have := hi.tr x hmem; omega⟩
    have eR : killR R S k now = R.set k (killX x now (tallyOf S k)) := by unfold killR; rw [if_pos h0, ← hx, Int.toNat_natCast]
    have eS : endS R S k 6 now = closeS S k 6 now := by unfold endS; rw [if_pos h0]
    have eA : killA ts R A k = killA2 A x (ts[tk]).dep := by unfold killA; rw [if_pos h0, ← hx, htk, trkAt_is htl]
    have eV : killEv ts R A k = killV k A x (ts[tk]).dep := by unfold killEv; rw [if_pos h0, ← hx, htk, trkAt_is htl]
    rw [eR, eS, eA, eV, h0]
    cases hp : x.put with
    | true =>
      by_cases hb : x.bk = -1
      · exact kill_tf h hi.len hk hong htk htl hp hb now
      · exact kill_tt h hi.len hk hong htk htl hp hb now
    | false =>
      by_cases hb : x.bk = -1
      · exact kill_ff h hi.len hk hong htk htl hp hb now
      · exact kill_ft h hi.len hk hong htk htl hp hb now
end
end Go.Proofs.YtpkamfbjgdmmoaaGreat
end
