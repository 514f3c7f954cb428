/-
  Joined texts.
-/
import Derived.BigRegion
import Derived.RegionTactic
import Derived.Deep.RegionHeld3
import Derived.Test.YtpkamfbjgdmmoaaGreatMgm

section
namespace Go.Proofs.YtpkamfbjgdmmoaaGreat
open Go.RowKit Go.Maps Go.Shelf
set_option linter.unusedVariables false
set_option linter.unusedSimpArgs false

def hsh0 : Hsh := ⟨List.replicate 32 0, rfl⟩
/-- What known does. -/
def kT : List Trk := [trkP]
def kR1 : List Rfm := subR kT [] Vs.zero A12 [] 1 0 0 hsh0 0
def kS1 : Vs := subS kT [] Vs.zero A12 [] 1 0 0
def kA1 : Acc := subA kT [] Vs.zero A12 [] 1 0 0
def kR2 : List Rfm := (serviceR kT (sumTo kA1 10) kR1 kS1 29).1
def kS2 : Vs := (serviceR kT (sumTo kA1 10) kR1 kS1 29).2.1
instance (x y s i : Int) : Decidable (Fits10 x y s i) := by unfold Fits10; infer_instance
theorem k12_ok : subN kT [] Vs.zero A12 [] 1 0 0 = 0 ∧ subE kT [] Vs.zero A12 [] 1 0 0 = 0 ∧ kR1 = [newX 0 hsh0 0 0 1] ∧ kR2 = [newX 0 hsh0 0 0 1] ∧ (serviceR kT (sumTo kA1 10) kR1 kS1 29).2.2 = [] ∧ (serviceR kT (sumTo kA1 10) kR2 kS2 30).2.2 = [(1, 0, 4)] ∧ Fits10 (tallyOf kS1 0).a (tallyOf kS1 0).n (tallyOf kS1 0).s (sumTo kA1 10) ∧ Fits10 (tallyOf kS2 0).a (tallyOf kS2 0).n (tallyOf kS2 0).s (sumTo kA1 10) := by decide +kernel
theorem rin_nil {ts : List Trk} (h : newB ts = true) : Rin ts [] := by
  unfold newB at h
  rw [Bool.and_eq_true] at h
  have hl := of_decide_eq_true h.1
  exact ⟨by simp, hl, fun t ht => List.all_eq_true.1 h.2 t ht, fun x hx => (by cases hx), fun x hx => (by cases hx), fun x hx => (by cases hx), fun x hx => (by cases hx)⟩
theorem k12_newB : newB kT = true := by decide +kernel
theorem k12_rin : Rin kT [newX 0 hsh0 0 0 1] := by
  have h := (rin_nil k12_newB).snoc (y := newX 0 hsh0 0 0 1) (by simp) (by decide) (by decide) (by unfold soon; decide) (by unfold soon; decide)
  exact h
theorem k12_rsi (n : Int) (hn : -1 ≤ n) : Rsi [newX 0 hsh0 0 0 1] n := fun x hx => by rw [List.mem_singleton] at hx; subst hx; exact hn
theorem row1 {B : Nat} {v : Value} {x : Ev} {w : World} (h : OwnR evR B v [x] w) : ∃ b cap, v = .slice (some ⟨b, 0, none⟩) 1 cap ∧ w.cell? ⟨b, 0, none⟩ = some (.int .i64 x.1) ∧ w.cell? ⟨b, 1, none⟩ = some (.int .i64 x.2.1) ∧ w.cell? ⟨b, 2, none⟩ = some (.int .i64 x.2.2) := by
  have h' := h
  obtain ⟨h1, h2⟩ := h
  rcases h2 with ⟨rfl, h0⟩ | ⟨g, cap, cur, rfl, hg, hh, hc, hr⟩
  · cases h0
  · exact ⟨g, cap, rfl, World.ownsRow.cells h' rfl 0 _ rfl, World.ownsRow.cells h' rfl 1 _ rfl, World.ownsRow.cells h' rfl 2 _ rfl⟩
set_option maxRecDepth 100000 in
set_option maxHeartbeats 4000000 in
theorem law12_known (w : World) : Calls Tryz.prog 20 #[] w fun e w' => e = .returned (.bool true) ∧ Below w.heap.size w w' := by
  obtain ⟨e1, e2, e3, e4, e5, e6, e7, e8⟩ := k12_ok
  have HPL := Lib.hid (law12_plain w)
  have hbg : ∀ W : World, Calls Tryz.prog 13 #[.slice (some ⟨W.heap.size, 0, none⟩) 1 1] (W.alloc (.cells (trkR.f trkP).toArray 26)) fun e w' => ∃ p g vb r, e = .returned (.pointer (some ⟨p, 0, none⟩)) ∧ P12 p r g vb kT [] Vs.zero A12 [] (W.alloc (.cells (trkR.f trkP).toArray 26)) w' := fun W => law12_begin (ts := kT) (by unfold kT; rw [trkR.all_one]; exact rangeAt_whole (T := 26) (World.alloc_heap_new _ _)) (by rw [World.size_alloc]; omega) (by unfold kT; simp) (by unfold kT; simp) k12_newB
  have HB := Lib.hid hbg
  have hsub : ∀ p r g vb w0 w, P12 p r g vb kT [] Vs.zero A12 [] w0 w → Calls Tryz.prog 14 #[.pointer (some ⟨r, 0, none⟩), .pointer (some ⟨g, 0, none⟩), .pointer (some ⟨vb, 0, none⟩), .int .i64 1, .int .i64 0, .agg (hsB hsh0.l).toArray, .int .i64 0, .int .i64 0] w fun e w' => e = .returned (.tuple #[.int .i64 0, .int .i64 0]) ∧ P12 p r g vb kT kR1 kS1 kA1 [] w0 w' := fun p r g vb w0 w hp => by
    have := hp.submit (rin_nil k12_newB) (a := 1) (by decide) 0 hsh0 0 0
    rw [e1, e2] at this
    exact this
  have hs1 : ∀ p r g vb w0 w, P12 p r g vb kT kR1 kS1 kA1 [] w0 w → Calls Tryz.prog 17 #[.pointer (some ⟨r, 0, none⟩), .pointer (some ⟨g, 0, none⟩), .pointer (some ⟨vb, 0, none⟩), .int .i64 29] w fun e w' => ∃ v, e = .returned v ∧ P12 p r g vb kT kR2 kS2 kA1 [] w0 w' ∧ OwnR evR w.heap.size v [] w' := fun p r g vb w0 w hp => by
    have := hp.service (now := 29) (by rw [e3]; exact k12_rin) (by rw [e3]; exact k12_rsi _ (by omega)) (by unfold soon; omega) (fun k hk => by rw [e3] at hk; simp at hk; subst hk; exact e7)
    rw [e5] at this
    exact this
  have hs2 : ∀ p r g vb w0 w, P12 p r g vb kT kR2 kS2 kA1 [] w0 w → Calls Tryz.prog 17 #[.pointer (some ⟨r, 0, none⟩), .pointer (some ⟨g, 0, none⟩), .pointer (some ⟨vb, 0, none⟩), .int .i64 30] w fun e w' => ∃ v, e = .returned v ∧ (∃ R S, P12 p r g vb kT R S kA1 [] w0 w') ∧ OwnR evR w.heap.size v [(1, 0, 4)] w' := fun p r g vb w0 w hp => by
    have := hp.service (now := 30) (by rw [e4]; exact k12_rin) (by rw [e4]; exact k12_rsi _ (by omega)) (by unfold soon; omega) (fun k hk => by rw [e4] at hk; simp at hk; subst hk; exact e8)
    rw [e6] at this
    exact this.mono fun e w' ⟨v, h1, h2, h3⟩ => ⟨v, h1, ⟨_, _, h2⟩, h3⟩
  have HSU := Lib.hid hsub
  have HS1 := Lib.hid hs1
  have HS2 := Lib.hid hs2
  clear e1 e2 e3 e4 e5 e6 e7 e8 hbg hsub hs1 hs2
  go_enter Tryz.func20, Tryz.ntmps20
  have mixed : Tryz.prog.follows .mixedOrders = true := by kernel_rfl
  go_upto_region 4 with (first
    | (go_at_call 12; refine HPL.out.mono ?_; rintro e w1 ⟨rfl, hb⟩; have H1 := Lib.hid hb; clear hb)
    | (go_at_call 13; refine (HB.out w1).mono ?_; rintro e w2 ⟨p, g, vb, r, rfl, hp⟩; have Q2 := Lib.hid hp; have D2 := Lib.hid hp.dcells; clear hp)
    | fail)
  obtain ⟨d0, d1, d2⟩ := D2.out
  have C2 := Lib.hid (And.intro d0 (And.intro d1 d2))
  have SX := fun (W : World) => (W.cell? ⟨p, 0, none⟩ = some (.pointer (some ⟨g, 0, none⟩)) ∧ W.cell? ⟨p, 1, none⟩ = some (.pointer (some ⟨vb, 0, none⟩)) ∧ W.cell? ⟨p, 2, none⟩ = some (.pointer (some ⟨r, 0, none⟩)))
  clear SX
  go_region_held3 (fun W => W.cell? ⟨p, 0, none⟩ = some (.pointer (some ⟨g, 0, none⟩)) ∧ W.cell? ⟨p, 1, none⟩ = some (.pointer (some ⟨vb, 0, none⟩)) ∧ W.cell? ⟨p, 2, none⟩ = some (.pointer (some ⟨r, 0, none⟩))) (first | exact C2.out | exact C3.out) (first
    | (go_at_call 14; refine (HSU.out _ _ _ _ _ _ Q2.out.drew).mono ?_; rintro e w3 ⟨rfl, hp⟩; have Q3 := Lib.hid hp; have C3 := Lib.hid hp.cells; have D3 := Lib.hid hp.dcells; clear hp)
    | fail)
  go_upto_region 5 with fail
  go_region_held3 (fun W => W.cell? ⟨p, 0, none⟩ = some (.pointer (some ⟨g, 0, none⟩)) ∧ W.cell? ⟨p, 1, none⟩ = some (.pointer (some ⟨vb, 0, none⟩)) ∧ W.cell? ⟨p, 2, none⟩ = some (.pointer (some ⟨r, 0, none⟩))) (first | exact D3.out | exact C4.out) (first
    | (go_at_call 17; refine (HS1.out _ _ _ _ _ _ Q3.out.drew).mono ?_; rintro e w4 ⟨v4, rfl, hp, ho⟩; obtain ⟨ao4, cp4, hv4⟩ := ho.lenOf; replace hv4 : v4 = .slice ao4 0 cp4 := hv4; subst hv4; have Q4 := Lib.hid hp; have C4 := Lib.hid hp.cells; have D4 := Lib.hid hp.dcells; clear hp ho)
    | fail)
  go_upto_region 6 with fail
  go_region_held3 (fun W => W.cell? ⟨p, 0, none⟩ = some (.pointer (some ⟨g, 0, none⟩)) ∧ W.cell? ⟨p, 1, none⟩ = some (.pointer (some ⟨vb, 0, none⟩)) ∧ W.cell? ⟨p, 2, none⟩ = some (.pointer (some ⟨r, 0, none⟩))) (first | exact D4.out | exact C5.out) (first
    | (go_at_call 17; refine (HS2.out _ _ _ _ _ _ Q4.out.drew).mono ?_; rintro e w5 ⟨v5, rfl, ⟨R5, S5, hp⟩, ho⟩; obtain ⟨b5, cp5, hv5, hr5⟩ := row1 ho; subst hv5; have Q5 := Lib.hid hp; have C5 := Lib.hid hp.cells; have R5' := Lib.hid hr5; clear hp ho hr5)
    | fail)
  obtain ⟨k0, k1, k2⟩ := R5'.out
  go_wp2_with fail
  go_ret
  have hb1 : Below w.heap.size w (w1.alloc (.cells (trkR.f trkP).toArray 26)) := H1.out.alloc H1.out.size _
  exact ⟨rfl, hb1.trans (Q5.out.old.mono hb1.size)⟩
end Go.Proofs.YtpkamfbjgdmmoaaGreat
end

section
namespace Go.Proofs.YtpkamfbjgdmmoaaGreat
open Go.RowKit Go.Maps Go.Shelf
set_option linter.unusedVariables false
set_option linter.unusedSimpArgs false

def soonB (n : Int) : Bool := decide (-1 ≤ n ∧ n ≤ 1099511627776)
theorem soonB_of {n : Int} (h : soonB n = true) : soon n := by
  show -1 ≤ n ∧ n ≤ 1099511627776
  unfold soonB at h
  exact of_decide_eq_true h
def rinB (ts : List Trk) (R : List Rfm) : Bool :=
  decide (R.length ≤ 12) && newB ts && R.all fun x => decide (0 ≤ x.tr ∧ x.tr < ts.length) && decide (0 ≤ x.who ∧ x.who < 10) && soonB x.sb && soonB x.si
theorem rinB_of {ts : List Trk} {R : List Rfm} (h : rinB ts R = true) : Rin ts R := by
  unfold rinB at h
  simp only [Bool.and_eq_true, List.all_eq_true] at h
  obtain ⟨⟨h1, h2⟩, h3⟩ := h
  have h4 := rin_nil h2
  exact ⟨of_decide_eq_true h1, h4.tlen, h4.ok, fun x hx => of_decide_eq_true (h3 x hx).1.1.1, fun x hx => of_decide_eq_true (h3 x hx).1.1.2, fun x hx => soonB_of (h3 x hx).1.2, fun x hx => soonB_of (h3 x hx).2⟩
structure St12 where
  R : List Rfm
  S : Vs
  A : Acc
  M : Cls Int
def St12.zero : St12 := ⟨[], Vs.zero, A12, []⟩
def srvB (ts : List Trk) (s : St12) (now : Int) : Bool :=
  rinB ts s.R && (s.R.all fun x => decide (x.si ≤ now)) && soonB now && (List.range s.R.length).all fun (k : Nat) => decide (Fits10 (tallyOf s.S k).a (tallyOf s.S k).n (tallyOf s.S k).s (sumTo s.A 10))
def St12.sub (ts : List Trk) (s : St12) (a t : Int) (h0 : Hsh) (af now : Int) : St12 := ⟨subR ts s.R s.S s.A s.M a t af h0 now, subS ts s.R s.S s.A s.M a t af, subA ts s.R s.S s.A s.M a t af, s.M⟩
def St12.dep (ts : List Trk) (s : St12) (a ref : Int) : St12 := ⟨depR ts s.R s.A s.M a ref, s.S, depA ts s.R s.A s.M a ref, s.M⟩
def St12.can (s : St12) (ref now : Int) : St12 := ⟨endR s.R s.S ref 5 now, endS s.R s.S ref 5 now, s.A, s.M⟩
def St12.kil (ts : List Trk) (s : St12) (ref now : Int) : St12 := ⟨killR s.R s.S ref now, endS s.R s.S ref 6 now, killA ts s.R s.A ref, s.M⟩
def St12.rfd (ts : List Trk) (s : St12) (a ref : Int) : St12 := ⟨rfdR s.R a ref, s.S, rfdA ts s.R s.A a ref, s.M⟩
def St12.srv (ts : List Trk) (s : St12) (now : Int) : St12 := ⟨(serviceR ts (sumTo s.A 10) s.R s.S now).1, (serviceR ts (sumTo s.A 10) s.R s.S now).2.1, s.A, s.M⟩
def St12.evs (ts : List Trk) (s : St12) (now : Int) : List Ev := (serviceR ts (sumTo s.A 10) s.R s.S now).2.2
def Pq (p r g vb : Nat) (ts : List Trk) (s : St12) (w0 w : World) : Prop := P12 p r g vb ts s.R s.S s.A s.M w0 w
section
variable {p r g vb : Nat} {ts : List Trk} {s : St12} {w0 w w' : World}
theorem Pq.below (h : Pq p r g vb ts s w0 w) (hb : Below w.heap.size w w') : Pq p r g vb ts s w0 w' := P12.below h hb
theorem Pq.drew (h : Pq p r g vb ts s w0 w) : Pq p r g vb ts s w0 w.drew := P12.drew h
theorem Pq.old (h : Pq p r g vb ts s w0 w) : Below w0.heap.size w0 w := P12.old h
theorem Pq.cells (h : Pq p r g vb ts s w0 w) : w.cell? ⟨p, 0, none⟩ = some (.pointer (some ⟨g, 0, none⟩)) ∧ w.cell? ⟨p, 1, none⟩ = some (.pointer (some ⟨vb, 0, none⟩)) ∧ w.cell? ⟨p, 2, none⟩ = some (.pointer (some ⟨r, 0, none⟩)) := P12.cells h
theorem Pq.dcells (h : Pq p r g vb ts s w0 w) : w.drew.cell? ⟨p, 0, none⟩ = some (.pointer (some ⟨g, 0, none⟩)) ∧ w.drew.cell? ⟨p, 1, none⟩ = some (.pointer (some ⟨vb, 0, none⟩)) ∧ w.drew.cell? ⟨p, 2, none⟩ = some (.pointer (some ⟨r, 0, none⟩)) := P12.dcells h
theorem Pq.Submit (h : Pq p r g vb ts s w0 w) (hi : rinB ts s.R = true) {a : Int} (ha : (Lit.int .i64 a).wf = true) (t : Int) (h0 : Hsh) (af now : Int) : Calls Tryz.prog 14 #[.pointer (some ⟨r, 0, none⟩), .pointer (some ⟨g, 0, none⟩), .pointer (some ⟨vb, 0, none⟩), .int .i64 a, .int .i64 t, .agg (hsB h0.l).toArray, .int .i64 af, .int .i64 now] w fun e w' => e = .returned (.tuple #[.int .i64 (subN ts s.R s.S s.A s.M a t af), .int .i64 (subE ts s.R s.S s.A s.M a t af)]) ∧ Pq p r g vb ts (s.sub ts a t h0 af now) w0 w' := P12.submit h (rinB_of hi) ha t h0 af now
theorem Pq.Deposit (h : Pq p r g vb ts s w0 w) (hi : rinB ts s.R = true) {a ref : Int} (ha : (Lit.int .i64 a).wf = true) (hr : (Lit.int .i64 ref).wf = true) : Calls Tryz.prog 15 #[.pointer (some ⟨r, 0, none⟩), .pointer (some ⟨g, 0, none⟩), .int .i64 a, .int .i64 ref] w fun e w' => e = .returned (.int .i64 (depE ts s.R s.A s.M a ref)) ∧ Pq p r g vb ts (s.dep ts a ref) w0 w' := P12.deposit h (rinB_of hi) ha hr
theorem Pq.Cancel (h : Pq p r g vb ts s w0 w) (hi : rinB ts s.R = true) {ref : Int} (hr : (Lit.int .i64 ref).wf = true) (now : Int) : Calls Tryz.prog 26 #[.pointer (some ⟨r, 0, none⟩), .pointer (some ⟨vb, 0, none⟩), .int .i64 ref, .int .i64 now] w fun e w' => ∃ v, e = .returned (.tuple #[v, .int .i64 (ongE s.R ref)]) ∧ Pq p r g vb ts (s.can ref now) w0 w' ∧ OwnR evR w.heap.size v (canEv s.R ref) w' := P12.cancel h (rinB_of hi) hr now
theorem Pq.Kill (h : Pq p r g vb ts s w0 w) (hi : rinB ts s.R = true) {ref : Int} (hr : (Lit.int .i64 ref).wf = true) (now : Int) : Calls Tryz.prog 24 #[.pointer (some ⟨r, 0, none⟩), .pointer (some ⟨g, 0, none⟩), .pointer (some ⟨vb, 0, none⟩), .int .i64 ref, .int .i64 now] w fun e w' => ∃ v, e = .returned (.tuple #[v, .int .i64 (ongE s.R ref)]) ∧ Pq p r g vb ts (s.kil ts ref now) w0 w' ∧ OwnR evR w.heap.size v (killEv ts s.R s.A ref) w' := P12.kill h (rinB_of hi) hr now
theorem Pq.Refund (h : Pq p r g vb ts s w0 w) (hi : rinB ts s.R = true) {a ref : Int} (hr : (Lit.int .i64 ref).wf = true) : Calls Tryz.prog 23 #[.pointer (some ⟨r, 0, none⟩), .pointer (some ⟨g, 0, none⟩), .int .i64 a, .int .i64 ref] w fun e w' => e = .returned (.int .i64 (rfdE s.R a ref)) ∧ Pq p r g vb ts (s.rfd ts a ref) w0 w' := P12.refund h (rinB_of hi) hr
theorem Pq.Service (h : Pq p r g vb ts s w0 w) {now : Int} (hb : srvB ts s now = true) : Calls Tryz.prog 17 #[.pointer (some ⟨r, 0, none⟩), .pointer (some ⟨g, 0, none⟩), .pointer (some ⟨vb, 0, none⟩), .int .i64 now] w fun e w' => ∃ v, e = .returned v ∧ Pq p r g vb ts (s.srv ts now) w0 w' ∧ OwnR evR w.heap.size v (s.evs ts now) w' := by
  unfold srvB at hb
  simp only [Bool.and_eq_true, List.all_eq_true] at hb
  obtain ⟨⟨⟨h1, h2⟩, h3⟩, h4⟩ := hb
  exact P12.service h (rinB_of h1) (fun x hx => of_decide_eq_true (h2 x hx)) (soonB_of h3) (fun k hk => of_decide_eq_true (h4 k (List.mem_range.2 hk)))
theorem Pq.Free (h : Pq p r g vb ts s w0 w) (a : Int) : Calls Tryz.prog 25 #[.pointer (some ⟨g, 0, none⟩), .int .i64 a] w fun e w' => e = .returned (.int .i64 (accOf s.A a).1) ∧ w' = w := by
  obtain ⟨Z, h1, lift⟩ := P12.via h
  obtain ⟨FL, hld, -⟩ := h1.ld
  exact ledger_FreeX hld a
theorem Pq.Transfer (h : Pq p r g vb ts s w0 w) {a : Int} (ha : (Lit.int .i64 a).wf = true) (b n : Int) : Calls Tryz.prog 27 #[.pointer (some ⟨g, 0, none⟩), .int .i64 a, .int .i64 b, .int .i64 n] w fun e w' => e = .returned (.int .i64 (transE s.A s.M a b n)) ∧ Pq p r g vb ts ⟨s.R, s.S, transA s.A s.M a b n, s.M⟩ w0 w' := by
  obtain ⟨Z, h1, lift⟩ := P12.via h
  obtain ⟨FL, hld, lift2⟩ := h1.ld
  exact (ledger_TransferX hld ha b n).mono fun e w' ⟨he, hto⟩ => ⟨he, lift _ _ _ _ _ (lift2 _ _ _ hto)⟩
theorem Pq.Get (h : Pq p r g vb ts s w0 w) {b : Int} (hb : (Lit.int .i64 b).wf = true) : Calls Tryz.prog 21 #[.pointer (some ⟨r, 0, none⟩), .int .i64 b] w fun e w' => e = .returned (.tuple #[.agg (rfS.f (refAt s.R b)).toArray, .bool (refHas s.R b)]) ∧ Pq p r g vb ts s w0 w' := by
  obtain ⟨Z, h1, lift⟩ := P12.via h
  obtain ⟨FR, hre, -⟩ := h1.re
  exact (refer_Get hre hb).mono fun e w' ⟨he, hbl⟩ => ⟨he, P12.below h hbl⟩
end
/-- The pair over one track. -/
theorem begin12 {t : Trk} (hok : newB [t] = true) (W : World) : Calls Tryz.prog 13 #[.slice (some ⟨W.heap.size, 0, none⟩) 1 1] (W.alloc (.cells (trkR.f t).toArray 26)) fun e w' => ∃ p g vb r, e = .returned (.pointer (some ⟨p, 0, none⟩)) ∧ Pq p r g vb [t] St12.zero (W.alloc (.cells (trkR.f t).toArray 26)) w' :=
  law12_begin (ts := [t]) (by rw [trkR.all_one]; exact rangeAt_whole (T := 26) (World.alloc_heap_new _ _)) (by rw [World.size_alloc]; omega) (by simp) (by simp) hok
theorem row3 {B : Nat} {v : Value} {x y z : Ev} {w : World} (h : OwnR evR B v [x, y, z] w) : ∃ b cap, v = .slice (some ⟨b, 0, none⟩) 3 cap ∧ (w.cell? ⟨b, 3, none⟩ = some (.int .i64 y.1) ∧ w.cell? ⟨b, 4, none⟩ = some (.int .i64 y.2.1) ∧ w.cell? ⟨b, 5, none⟩ = some (.int .i64 y.2.2)) ∧ w.cell? ⟨b, 6, none⟩ = some (.int .i64 z.1) ∧ w.cell? ⟨b, 7, none⟩ = some (.int .i64 z.2.1) ∧ w.cell? ⟨b, 8, none⟩ = some (.int .i64 z.2.2) := by
  have h' := h
  obtain ⟨h1, h2⟩ := h
  rcases h2 with ⟨rfl, h0⟩ | ⟨g, cap, cur, rfl, hg, hh, hc, hr⟩
  · cases h0
  · exact ⟨g, cap, rfl, ⟨World.ownsRow.cells h' rfl 3 _ rfl, World.ownsRow.cells h' rfl 4 _ rfl, World.ownsRow.cells h' rfl 5 _ rfl⟩, World.ownsRow.cells h' rfl 6 _ rfl, World.ownsRow.cells h' rfl 7 _ rfl, World.ownsRow.cells h' rfl 8 _ rfl⟩
end Go.Proofs.YtpkamfbjgdmmoaaGreat
end
