/-
  Joined texts.
-/
import Derived.BigRegion
import Derived.RegionTactic
import Derived.Deep.RegionHeld3
import Derived.TacticsInMore
import Derived.LoopNIn
import Derived.LoopIn
import Derived.Test.YtpkamfbjgdmmoaaGreatMgm

section
namespace Go.Proofs.YtpkamfbjgdmmoaaGreat
open Go.RowKit Go.Maps Go.Shelf
set_option linter.unusedVariables false
set_option linter.unusedSimpArgs false

def hsh0 : Hsh := ⟨List.replicate 32 0, rfl⟩
/-- What known does. -/
def kT : List Trk := [trkP]
def kR1 : List Rfm := subR kT [] Vs.zero A12 [] 1 0 0 hsh0 0
def kS1 : Vs := subS kT [] Vs.zero A12 [] 1 0 0
def kA1 : Acc := subA kT [] Vs.zero A12 [] 1 0 0
def kR2 : List Rfm := (serviceR kT (sumTo kA1 10) kR1 kS1 29).1
def kS2 : Vs := (serviceR kT (sumTo kA1 10) kR1 kS1 29).2.1
instance (x y s i : Int) : Decidable (Fits10 x y s i) := by unfold Fits10; infer_instance
theorem k12_ok : subN kT [] Vs.zero A12 [] 1 0 0 = 0 ∧ subE kT [] Vs.zero A12 [] 1 0 0 = 0 ∧ kR1 = [newX 0 hsh0 0 0 1] ∧ kR2 = [newX 0 hsh0 0 0 1] ∧ (serviceR kT (sumTo kA1 10) kR1 kS1 29).2.2 = [] ∧ (serviceR kT (sumTo kA1 10) kR2 kS2 30).2.2 = [(1, 0, 4)] ∧ Fits10 (tallyOf kS1 0).a (tallyOf kS1 0).n (tallyOf kS1 0).s (sumTo kA1 10) ∧ Fits10 (tallyOf kS2 0).a (tallyOf kS2 0).n (tallyOf kS2 0).s (sumTo kA1 10) := by decide +kernel
theorem rin_nil {ts : List Trk} (h : newB ts = true) : Rin ts [] := by
  unfold newB at h
  rw [Bool.and_eq_true] at h
  have hl := of_decide_eq_true h.1
  exact ⟨by simp, hl, fun t ht => List.all_eq_true.1 h.2 t ht, fun x hx => (by cases hx), fun x hx => (by cases hx), fun x hx => (by cases hx), fun x hx => (by cases hx)⟩
theorem k12_newB : newB kT = true := by decide +kernel
theorem k12_rin : Rin kT [newX 0 hsh0 0 0 1] := by
  have h := (rin_nil k12_newB).snoc (y := newX 0 hsh0 0 0 1) (by simp) (by decide) (by decide) (by unfold soon; decide) (by unfold soon; decide)
  exact h
theorem k12_rsi (n : Int) (hn : -1 ≤ n) : Rsi [newX 0 hsh0 0 0 1] n := fun x hx => by rw [List.mem_singleton] at hx; subst hx; exact hn
theorem row1 {B : Nat} {v : Value} {x : Ev} {w : World} (h : OwnR evR B v [x] w) : ∃ b cap, v = .slice (some ⟨b, 0, none⟩) 1 cap ∧ w.cell? ⟨b, 0, none⟩ = some (.int .i64 x.1) ∧ w.cell? ⟨b, 1, none⟩ = some (.int .i64 x.2.1) ∧ w.cell? ⟨b, 2, none⟩ = some (.int .i64 x.2.2) := by
  have h' := h
  obtain ⟨h1, h2⟩ := h
  rcases h2 with ⟨rfl, h0⟩ | ⟨g, cap, cur, rfl, hg, hh, hc, hr⟩
  · cases h0
  · exact ⟨g, cap, rfl, World.ownsRow.cells h' rfl 0 _ rfl, World.ownsRow.cells h' rfl 1 _ rfl, World.ownsRow.cells h' rfl 2 _ rfl⟩
set_option maxRecDepth 100000 in
set_option maxHeartbeats 4000000 in
theorem law12_known (w : World) : Calls Tryz.prog 20 #[] w fun e w' => e = .returned (.bool true) ∧ Below w.heap.size w w' := by
  obtain ⟨e1, e2, e3, e4, e5, e6, e7, e8⟩ := k12_ok
  have HPL := Lib.hid (law12_plain w)
  have hbg : ∀ W : World, Calls Tryz.prog 13 #[.slice (some ⟨W.heap.size, 0, none⟩) 1 1] (W.alloc (.cells (trkR.f trkP).toArray 26)) fun e w' => ∃ p g vb r, e = .returned (.pointer (some ⟨p, 0, none⟩)) ∧ P12 p r g vb kT [] Vs.zero A12 [] (W.alloc (.cells (trkR.f trkP).toArray 26)) w' := fun W => law12_begin (ts := kT) (by unfold kT; rw [trkR.all_one]; exact rangeAt_whole (T := 26) (World.alloc_heap_new _ _)) (by rw [World.size_alloc]; omega) (by unfold kT; simp) (by unfold kT; simp) k12_newB
  have HB := Lib.hid hbg
  have hsub : ∀ p r g vb w0 w, P12 p r g vb kT [] Vs.zero A12 [] w0 w → Calls Tryz.prog 14 #[.pointer (some ⟨r, 0, none⟩), .pointer (some ⟨g, 0, none⟩), .pointer (some ⟨vb, 0, none⟩), .int .i64 1, .int .i64 0, .agg (hsB hsh0.l).toArray, .int .i64 0, .int .i64 0] w fun e w' => e = .returned (.tuple #[.int .i64 0, .int .i64 0]) ∧ P12 p r g vb kT kR1 kS1 kA1 [] w0 w' := fun p r g vb w0 w hp => by
    have := hp.submit (rin_nil k12_newB) (a := 1) (by decide) 0 hsh0 0 0
    rw [e1, e2] at this
    exact this
  have hs1 : ∀ p r g vb w0 w, P12 p r g vb kT kR1 kS1 kA1 [] w0 w → Calls Tryz.prog 17 #[.pointer (some ⟨r, 0, none⟩), .pointer (some ⟨g, 0, none⟩), .pointer (some ⟨vb, 0, none⟩), .int .i64 29] w fun e w' => ∃ v, e = .returned v ∧ P12 p r g vb kT kR2 kS2 kA1 [] w0 w' ∧ OwnR evR w.heap.size v [] w' := fun p r g vb w0 w hp => by
    have := hp.service (now := 29) (by rw [e3]; exact k12_rin) (by rw [e3]; exact k12_rsi _ (by omega)) (by unfold soon; omega) (fun k hk => by rw [e3] at hk; simp at hk; subst hk; exact e7)
    rw [e5] at this
    exact this
  have hs2 : ∀ p r g vb w0 w, P12 p r g vb kT kR2 kS2 kA1 [] w0 w → Calls Tryz.prog 17 #[.pointer (some ⟨r, 0, none⟩), .pointer (some ⟨g, 0, none⟩), .pointer (some ⟨vb, 0, none⟩), .int .i64 30] w fun e w' => ∃ v, e = .returned v ∧ (∃ R S, P12 p r g vb kT R S kA1 [] w0 w') ∧ OwnR evR w.heap.size v [(1, 0, 4)] w' := fun p r g vb w0 w hp => by
    have := hp.service (now := 30) (by rw [e4]; exact k12_rin) (by rw [e4]; exact k12_rsi _ (by omega)) (by unfold soon; omega) (fun k hk => by rw [e4] at hk; simp at hk; subst hk; exact e8)
    rw [e6] at this
    exact this.mono fun e w' ⟨v, h1, h2, h3⟩ => ⟨v, h1, ⟨_, _, h2⟩, h3⟩
  have HSU := Lib.hid hsub
  have HS1 := Lib.hid hs1
  have HS2 := Lib.hid hs2
  clear e1 e2 e3 e4 e5 e6 e7 e8 hbg hsub hs1 hs2
  go_enter Tryz.func20, Tryz.ntmps20
  have mixed : Tryz.prog.follows .mixedOrders = true := by kernel_rfl
  go_upto_region 4 with (first
    | (go_at_call 12; refine HPL.out.mono ?_; rintro e w1 ⟨rfl, hb⟩; have H1 := Lib.hid hb; clear hb)
    | (go_at_call 13; refine (HB.out w1).mono ?_; rintro e w2 ⟨p, g, vb, r, rfl, hp⟩; have Q2 := Lib.hid hp; have D2 := Lib.hid hp.dcells; clear hp)
    | fail)
  obtain ⟨d0, d1, d2⟩ := D2.out
  have C2 := Lib.hid (And.intro d0 (And.intro d1 d2))
  have SX := fun (W : World) => (W.cell? ⟨p, 0, none⟩ = some (.pointer (some ⟨g, 0, none⟩)) ∧ W.cell? ⟨p, 1, none⟩ = some (.pointer (some ⟨vb, 0, none⟩)) ∧ W.cell? ⟨p, 2, none⟩ = some (.pointer (some ⟨r, 0, none⟩)))
  clear SX
  go_region_held3 (fun W => W.cell? ⟨p, 0, none⟩ = some (.pointer (some ⟨g, 0, none⟩)) ∧ W.cell? ⟨p, 1, none⟩ = some (.pointer (some ⟨vb, 0, none⟩)) ∧ W.cell? ⟨p, 2, none⟩ = some (.pointer (some ⟨r, 0, none⟩))) (first | exact C2.out | exact C3.out) (first
    | (go_at_call 14; refine (HSU.out _ _ _ _ _ _ Q2.out.drew).mono ?_; rintro e w3 ⟨rfl, hp⟩; have Q3 := Lib.hid hp; have C3 := Lib.hid hp.cells; have D3 := Lib.hid hp.dcells; clear hp)
    | fail)
  go_upto_region 5 with fail
  go_region_held3 (fun W => W.cell? ⟨p, 0, none⟩ = some (.pointer (some ⟨g, 0, none⟩)) ∧ W.cell? ⟨p, 1, none⟩ = some (.pointer (some ⟨vb, 0, none⟩)) ∧ W.cell? ⟨p, 2, none⟩ = some (.pointer (some ⟨r, 0, none⟩))) (first | exact D3.out | exact C4.out) (first
    | (go_at_call 17; refine (HS1.out _ _ _ _ _ _ Q3.out.drew).mono ?_; rintro e w4 ⟨v4, rfl, hp, ho⟩; obtain ⟨ao4, cp4, hv4⟩ := ho.lenOf; replace hv4 : v4 = .slice ao4 0 cp4 := hv4; subst hv4; have Q4 := Lib.hid hp; have C4 := Lib.hid hp.cells; have D4 := Lib.hid hp.dcells; clear hp ho)
    | fail)
  go_upto_region 6 with fail
  go_region_held3 (fun W => W.cell? ⟨p, 0, none⟩ = some (.pointer (some ⟨g, 0, none⟩)) ∧ W.cell? ⟨p, 1, none⟩ = some (.pointer (some ⟨vb, 0, none⟩)) ∧ W.cell? ⟨p, 2, none⟩ = some (.pointer (some ⟨r, 0, none⟩))) (first | exact D4.out | exact C5.out) (first
    | (go_at_call 17; refine (HS2.out _ _ _ _ _ _ Q4.out.drew).mono ?_; rintro e w5 ⟨v5, rfl, ⟨R5, S5, hp⟩, ho⟩; obtain ⟨b5, cp5, hv5, hr5⟩ := row1 ho; subst hv5; have Q5 := Lib.hid hp; have C5 := Lib.hid hp.cells; have R5' := Lib.hid hr5; clear hp ho hr5)
    | fail)
  obtain ⟨k0, k1, k2⟩ := R5'.out
  go_wp2_with fail
  go_ret
  have hb1 : Below w.heap.size w (w1.alloc (.cells (trkR.f trkP).toArray 26)) := H1.out.alloc H1.out.size _
  exact ⟨rfl, hb1.trans (Q5.out.old.mono hb1.size)⟩
end Go.Proofs.YtpkamfbjgdmmoaaGreat
end

section
namespace Go.Proofs.YtpkamfbjgdmmoaaGreat
open Go.RowKit Go.Maps Go.Shelf
set_option linter.unusedVariables false
set_option linter.unusedSimpArgs false

def soonB (n : Int) : Bool := decide (-1 ≤ n ∧ n ≤ 1099511627776)
theorem soonB_of {n : Int} (h : soonB n = true) : soon n := by
  show -1 ≤ n ∧ n ≤ 1099511627776
  unfold soonB at h
  exact of_decide_eq_true h
def rinB (ts : List Trk) (R : List Rfm) : Bool :=
  decide (R.length ≤ 12) && newB ts && R.all fun x => decide (0 ≤ x.tr ∧ x.tr < ts.length) && decide (0 ≤ x.who ∧ x.who < 10) && soonB x.sb && soonB x.si
theorem rinB_of {ts : List Trk} {R : List Rfm} (h : rinB ts R = true) : Rin ts R := by
  unfold rinB at h
  simp only [Bool.and_eq_true, List.all_eq_true] at h
  obtain ⟨⟨h1, h2⟩, h3⟩ := h
  have h4 := rin_nil h2
  exact ⟨of_decide_eq_true h1, h4.tlen, h4.ok, fun x hx => of_decide_eq_true (h3 x hx).1.1.1, fun x hx => of_decide_eq_true (h3 x hx).1.1.2, fun x hx => soonB_of (h3 x hx).1.2, fun x hx => soonB_of (h3 x hx).2⟩
structure St12 where
  R : List Rfm
  S : Vs
  A : Acc
  M : Cls Int
def St12.zero : St12 := ⟨[], Vs.zero, A12, []⟩
def srvB (ts : List Trk) (s : St12) (now : Int) : Bool :=
  rinB ts s.R && (s.R.all fun x => decide (x.si ≤ now)) && soonB now && (List.range s.R.length).all fun (k : Nat) => decide (Fits10 (tallyOf s.S k).a (tallyOf s.S k).n (tallyOf s.S k).s (sumTo s.A 10))
def St12.sub (ts : List Trk) (s : St12) (a t : Int) (h0 : Hsh) (af now : Int) : St12 := ⟨subR ts s.R s.S s.A s.M a t af h0 now, subS ts s.R s.S s.A s.M a t af, subA ts s.R s.S s.A s.M a t af, s.M⟩
def St12.dep (ts : List Trk) (s : St12) (a ref : Int) : St12 := ⟨depR ts s.R s.A s.M a ref, s.S, depA ts s.R s.A s.M a ref, s.M⟩
def St12.can (s : St12) (ref now : Int) : St12 := ⟨endR s.R s.S ref 5 now, endS s.R s.S ref 5 now, s.A, s.M⟩
def St12.kil (ts : List Trk) (s : St12) (ref now : Int) : St12 := ⟨killR s.R s.S ref now, endS s.R s.S ref 6 now, killA ts s.R s.A ref, s.M⟩
def St12.rfd (ts : List Trk) (s : St12) (a ref : Int) : St12 := ⟨rfdR s.R a ref, s.S, rfdA ts s.R s.A a ref, s.M⟩
def St12.srv (ts : List Trk) (s : St12) (now : Int) : St12 := ⟨(serviceR ts (sumTo s.A 10) s.R s.S now).1, (serviceR ts (sumTo s.A 10) s.R s.S now).2.1, s.A, s.M⟩
def St12.evs (ts : List Trk) (s : St12) (now : Int) : List Ev := (serviceR ts (sumTo s.A 10) s.R s.S now).2.2
def Pq (p r g vb : Nat) (ts : List Trk) (s : St12) (w0 w : World) : Prop := P12 p r g vb ts s.R s.S s.A s.M w0 w
section
variable {p r g vb : Nat} {ts : List Trk} {s : St12} {w0 w w' : World}
theorem Pq.below (h : Pq p r g vb ts s w0 w) (hb : Below w.heap.size w w') : Pq p r g vb ts s w0 w' := P12.below h hb
theorem Pq.drew (h : Pq p r g vb ts s w0 w) : Pq p r g vb ts s w0 w.drew := P12.drew h
theorem Pq.old (h : Pq p r g vb ts s w0 w) : Below w0.heap.size w0 w := P12.old h
theorem Pq.cells (h : Pq p r g vb ts s w0 w) : w.cell? ⟨p, 0, none⟩ = some (.pointer (some ⟨g, 0, none⟩)) ∧ w.cell? ⟨p, 1, none⟩ = some (.pointer (some ⟨vb, 0, none⟩)) ∧ w.cell? ⟨p, 2, none⟩ = some (.pointer (some ⟨r, 0, none⟩)) := P12.cells h
theorem Pq.dcells (h : Pq p r g vb ts s w0 w) : w.drew.cell? ⟨p, 0, none⟩ = some (.pointer (some ⟨g, 0, none⟩)) ∧ w.drew.cell? ⟨p, 1, none⟩ = some (.pointer (some ⟨vb, 0, none⟩)) ∧ w.drew.cell? ⟨p, 2, none⟩ = some (.pointer (some ⟨r, 0, none⟩)) := P12.dcells h
theorem Pq.Submit (h : Pq p r g vb ts s w0 w) (hi : rinB ts s.R = true) {a : Int} (ha : (Lit.int .i64 a).wf = true) (t : Int) (h0 : Hsh) (af now : Int) : Calls Tryz.prog 14 #[.pointer (some ⟨r, 0, none⟩), .pointer (some ⟨g, 0, none⟩), .pointer (some ⟨vb, 0, none⟩), .int .i64 a, .int .i64 t, .agg (hsB h0.l).toArray, .int .i64 af, .int .i64 now] w fun e w' => e = .returned (.tuple #[.int .i64 (subN ts s.R s.S s.A s.M a t af), .int .i64 (subE ts s.R s.S s.A s.M a t af)]) ∧ Pq p r g vb ts (s.sub ts a t h0 af now) w0 w' := P12.submit h (rinB_of hi) ha t h0 af now
theorem Pq.Deposit (h : Pq p r g vb ts s w0 w) (hi : rinB ts s.R = true) {a ref : Int} (ha : (Lit.int .i64 a).wf = true) (hr : (Lit.int .i64 ref).wf = true) : Calls Tryz.prog 15 #[.pointer (some ⟨r, 0, none⟩), .pointer (some ⟨g, 0, none⟩), .int .i64 a, .int .i64 ref] w fun e w' => e = .returned (.int .i64 (depE ts s.R s.A s.M a ref)) ∧ Pq p r g vb ts (s.dep ts a ref) w0 w' := P12.deposit h (rinB_of hi) ha hr
theorem Pq.Cancel (h : Pq p r g vb ts s w0 w) (hi : rinB ts s.R = true) {ref : Int} (hr : (Lit.int .i64 ref).wf = true) (now : Int) : Calls Tryz.prog 26 #[.pointer (some ⟨r, 0, none⟩), .pointer (some ⟨vb, 0, none⟩), .int .i64 ref, .int .i64 now] w fun e w' => ∃ v, e = .returned (.tuple #[v, .int .i64 (ongE s.R ref)]) ∧ Pq p r g vb ts (s.can ref now) w0 w' ∧ OwnR evR w.heap.size v (canEv s.R ref) w' := P12.cancel h (rinB_of hi) hr now
theorem Pq.Kill (h : Pq p r g vb ts s w0 w) (hi : rinB ts s.R = true) {ref : Int} (hr : (Lit.int .i64 ref).wf = true) (now : Int) : Calls Tryz.prog 24 #[.pointer (some ⟨r, 0, none⟩), .pointer (some ⟨g, 0, none⟩), .pointer (some ⟨vb, 0, none⟩), .int .i64 ref, .int .i64 now] w fun e w' => ∃ v, e = .returned (.tuple #[v, .int .i64 (ongE s.R ref)]) ∧ Pq p r g vb ts (s.kil ts ref now) w0 w' ∧ OwnR evR w.heap.size v (killEv ts s.R s.A ref) w' := P12.kill h (rinB_of hi) hr now
theorem Pq.Refund (h : Pq p r g vb ts s w0 w) (hi : rinB ts s.R = true) {a ref : Int} (hr : (Lit.int .i64 ref).wf = true) : Calls Tryz.prog 23 #[.pointer (some ⟨r, 0, none⟩), .pointer (some ⟨g, 0, none⟩), .int .i64 a, .int .i64 ref] w fun e w' => e = .returned (.int .i64 (rfdE s.R a ref)) ∧ Pq p r g vb ts (s.rfd ts a ref) w0 w' := P12.refund h (rinB_of hi) hr
theorem Pq.Service (h : Pq p r g vb ts s w0 w) {now : Int} (hb : srvB ts s now = true) : Calls Tryz.prog 17 #[.pointer (some ⟨r, 0, none⟩), .pointer (some ⟨g, 0, none⟩), .pointer (some ⟨vb, 0, none⟩), .int .i64 now] w fun e w' => ∃ v, e = .returned v ∧ Pq p r g vb ts (s.srv ts now) w0 w' ∧ OwnR evR w.heap.size v (s.evs ts now) w' := by
  unfold srvB at hb
  simp only [Bool.and_eq_true, List.all_eq_true] at hb
  obtain ⟨⟨⟨h1, h2⟩, h3⟩, h4⟩ := hb
  exact P12.service h (rinB_of h1) (fun x hx => of_decide_eq_true (h2 x hx)) (soonB_of h3) (fun k hk => of_decide_eq_true (h4 k (List.mem_range.2 hk)))
theorem Pq.Free (h : Pq p r g vb ts s w0 w) (a : Int) : Calls Tryz.prog 25 #[.pointer (some ⟨g, 0, none⟩), .int .i64 a] w fun e w' => e = .returned (.int .i64 (accOf s.A a).1) ∧ w' = w := by
  obtain ⟨Z, h1, lift⟩ := P12.via h
  obtain ⟨FL, hld, -⟩ := h1.ld
  exact ledger_FreeX hld a
theorem Pq.Transfer (h : Pq p r g vb ts s w0 w) {a : Int} (ha : (Lit.int .i64 a).wf = true) (b n : Int) : Calls Tryz.prog 27 #[.pointer (some ⟨g, 0, none⟩), .int .i64 a, .int .i64 b, .int .i64 n] w fun e w' => e = .returned (.int .i64 (transE s.A s.M a b n)) ∧ Pq p r g vb ts ⟨s.R, s.S, transA s.A s.M a b n, s.M⟩ w0 w' := by
  obtain ⟨Z, h1, lift⟩ := P12.via h
  obtain ⟨FL, hld, lift2⟩ := h1.ld
  exact (ledger_TransferX hld ha b n).mono fun e w' ⟨he, hto⟩ => ⟨he, lift _ _ _ _ _ (lift2 _ _ _ hto)⟩
theorem Pq.Get (h : Pq p r g vb ts s w0 w) {b : Int} (hb : (Lit.int .i64 b).wf = true) : Calls Tryz.prog 21 #[.pointer (some ⟨r, 0, none⟩), .int .i64 b] w fun e w' => e = .returned (.tuple #[.agg (rfS.f (refAt s.R b)).toArray, .bool (refHas s.R b)]) ∧ Pq p r g vb ts s w0 w' := by
  obtain ⟨Z, h1, lift⟩ := P12.via h
  obtain ⟨FR, hre, -⟩ := h1.re
  exact (refer_Get hre hb).mono fun e w' ⟨he, hbl⟩ => ⟨he, P12.below h hbl⟩
end
/-- The pair over one track. -/
theorem begin12 {t : Trk} (hok : newB [t] = true) (W : World) : Calls Tryz.prog 13 #[.slice (some ⟨W.heap.size, 0, none⟩) 1 1] (W.alloc (.cells (trkR.f t).toArray 26)) fun e w' => ∃ p g vb r, e = .returned (.pointer (some ⟨p, 0, none⟩)) ∧ Pq p r g vb [t] St12.zero (W.alloc (.cells (trkR.f t).toArray 26)) w' :=
  law12_begin (ts := [t]) (by rw [trkR.all_one]; exact rangeAt_whole (T := 26) (World.alloc_heap_new _ _)) (by rw [World.size_alloc]; omega) (by simp) (by simp) hok
theorem row3 {B : Nat} {v : Value} {x y z : Ev} {w : World} (h : OwnR evR B v [x, y, z] w) : ∃ b cap, v = .slice (some ⟨b, 0, none⟩) 3 cap ∧ (w.cell? ⟨b, 3, none⟩ = some (.int .i64 y.1) ∧ w.cell? ⟨b, 4, none⟩ = some (.int .i64 y.2.1) ∧ w.cell? ⟨b, 5, none⟩ = some (.int .i64 y.2.2)) ∧ w.cell? ⟨b, 6, none⟩ = some (.int .i64 z.1) ∧ w.cell? ⟨b, 7, none⟩ = some (.int .i64 z.2.1) ∧ w.cell? ⟨b, 8, none⟩ = some (.int .i64 z.2.2) := by
  have h' := h
  obtain ⟨h1, h2⟩ := h
  rcases h2 with ⟨rfl, h0⟩ | ⟨g, cap, cur, rfl, hg, hh, hc, hr⟩
  · cases h0
  · exact ⟨g, cap, rfl, ⟨World.ownsRow.cells h' rfl 3 _ rfl, World.ownsRow.cells h' rfl 4 _ rfl, World.ownsRow.cells h' rfl 5 _ rfl⟩, World.ownsRow.cells h' rfl 6 _ rfl, World.ownsRow.cells h' rfl 7 _ rfl, World.ownsRow.cells h' rfl 8 _ rfl⟩
end Go.Proofs.YtpkamfbjgdmmoaaGreat
end

section
namespace Go.Proofs.YtpkamfbjgdmmoaaGreat
open Go.RowKit Go.Maps Go.Shelf
set_option linter.unusedVariables false
set_option linter.unusedSimpArgs false

theorem refer_All_nil (w : World) :
    Calls Tryz.prog 57 #[.pointer none] w fun e w' => ∃ bx v, e = .returned (.func (.func 119) #[] #[.pointer (some ⟨bx, 0, none⟩)]) ∧ Boxed w' bx 224 v ∧ OwnR pair_R (bx + 1) v (rowR 0 []) w' ∧ w.heap.size ≤ bx ∧ Below w.heap.size w w' := by
  have HROW := Lib.hid (grid_Row_nil_R 0 w)
  have HL := Lib.hid (show ([] : List (Int × Rfm)).length ≤ 1000000 by simp)
  go_enter Tryz.func57, Tryz.ntmps57
  go_wp2_with (first
    | (go_at_call 97; refine HROW.out.mono ?_; rintro e w1 ⟨f, rfl, hway, hb⟩; obtain ⟨gf, lb, rfl, hit⟩ := hway; have H1 := Lib.hid (And.intro hit hb); clear hit hb)
    | (go_at_call 96; refine (still_Now_R gf lb [] w1 H1.out.1.1 (H1.out.1.2 0).iterI HL.out).mono ?_; rintro e w2 ⟨v, rfl, hbx, ho, hb⟩; have H2 := Lib.hid (And.intro hbx (And.intro ho hb)); clear hbx ho hb)
    | fail)
  go_ret
  exact ⟨_, v, rfl, H2.out.1, H2.out.2.1, H1.out.2.size, H1.out.2.trans (H2.out.2.2.mono H1.out.2.size)⟩
set_option maxRecDepth 100000 in
attribute [local go_sem ↓] loadSt_R_hide in
theorem refer_Get_nil (b : Int) (w : World) : Calls Tryz.prog 21 #[.pointer none, .int .i64 b] w fun e w' => e = .returned (.tuple #[.agg (rfS.f rfS.zero).toArray, .bool false]) ∧ Below w.heap.size w w' := by
  go_enter Tryz.func21, Tryz.ntmps21
  go_upto_region 1 with (first | (refine wpl_allocS (s := rfS) rfl rfl rfl ?_) | fail)
  go_wp2_with (first
    | (refine wpl_storeS (s := rfS) (t := rfS.zero) (b := w.heap.size) _ _ rfl rfl rfl rfl rfl (World.alloc_heap_new w _) (zeroS rfS) ?_; rw [newS])
    | fail)
  exact bodyPost_ret (v := .tuple #[rfS.v rfS.zero, .bool false]) (results_S2 (s := rfS) Tryz.results21 rfl rfl (rangeAt_whole (T := rfS.T) (World.alloc_heap_new _ _))) rfl ⟨rfl, (Below.refl _ w).alloc (Nat.le_refl _) _⟩
theorem refer_Track_nil (b : Int) (w : World) : Calls Tryz.prog 30 #[.pointer none, .int .i64 b] w fun e w' => e = .returned (.tuple #[.agg (trkR.f trk0).toArray, .bool false]) ∧ Below w.heap.size w w' := by
  go_enter Tryz.func30, Tryz.ntmps30
  go_wp2_with (first
    | (refine wpl_allocR (r := trkR) (ty := 26) rfl rfl rfl ?_; intro C hC)
    | (refine wpl_storeR (r := trkR) (ty := 26) (t := trk0) (C := C) _ _ rfl rfl rfl rfl rfl (World.alloc_heap_new w _) hC ?_; rw [World.setRow_alloc_new])
    | fail)
  exact bodyPost_ret (v := .tuple #[.agg (trkR.f trk0).toArray, .bool false]) (by exact results_R2 (r := trkR) (t := trk0) (b := w.heap.size) Tryz.results30 rfl rfl (rangeAt_whole (T := 26) (World.alloc_heap_new _ _))) rfl ⟨rfl, (Below.refl _ w).alloc (Nat.le_refl _) _⟩
set_option maxRecDepth 100000 in
set_option maxHeartbeats 4000000 in
theorem refer_Submit_nil (g v : Option Addr) (a t : Int) (h0 : Hsh) (af now : Int) (w : World) : Calls Tryz.prog 14 #[.pointer none, .pointer g, .pointer v, .int .i64 a, .int .i64 t, .agg (hsB h0.l).toArray, .int .i64 af, .int .i64 now] w fun e w' => e = .returned (.tuple #[.int .i64 0, .int .i64 1]) ∧ Below w.heap.size w w' := by
  obtain ⟨W1, hW1⟩ : ∃ W1, W1 = w.alloc (.cells (hsB h0.l).toArray 43) := ⟨_, rfl⟩
  obtain ⟨hb, hhb⟩ : ∃ hb, hb = w.heap.size := ⟨_, rfl⟩
  have hB1 : Below w.heap.size w W1 := by rw [hW1]; exact (Below.refl _ w).alloc (Nat.le_refl _) _
  have HB1 := Lib.hid hB1
  have HT := Lib.hid (refer_Track_nil t W1)
  have HW1 := Lib.hid (And.intro hW1 hhb)
  clear hB1 hW1 hhb
  go_enter Tryz.func14, Tryz.ntmps14
  go_upto_region 1 with fail
  rw [← HW1.out.1, ← HW1.out.2]
  go_wp2_with (first
    | (go_at_call 30; refine HT.out.mono ?_; rintro e w2 ⟨rfl, hb2⟩; have H2 := Lib.hid hb2; clear hb2)
    | (refine wpl_allocR (r := trkR) (ty := 26) rfl rfl rfl ?_; intro C hC; have HC := Lib.hid hC; clear hC)
    | (refine wpl_storeR (r := trkR) (ty := 26) (t := trk0) (C := C) _ _ rfl rfl rfl rfl rfl (World.alloc_heap_new w2 _) HC.out ?_; rw [World.setRow_alloc_new])
    | fail)
  exact bodyPost_ret (v := .tuple #[.int .i64 0, .int .i64 1]) (by simp [results, Tryz.results14, go_sem]) rfl ⟨rfl, HB1.out.trans ((H2.out.alloc H2.out.size _).mono HB1.out.size)⟩
theorem refer_Deposit_nil (g : Option Addr) (a b : Int) (w : World) : Calls Tryz.prog 15 #[.pointer none, .pointer g, .int .i64 a, .int .i64 b] w fun e w' => e = .returned (.int .i64 1) ∧ w' = w := by
  go_enter Tryz.func15, Tryz.ntmps15
  go_wp2
  go_ret
  exact ⟨rfl, rfl⟩
theorem refer_Refund_nil (g : Option Addr) (a b : Int) (w : World) : Calls Tryz.prog 23 #[.pointer none, .pointer g, .int .i64 a, .int .i64 b] w fun e w' => e = .returned (.int .i64 1) ∧ w' = w := by
  go_enter Tryz.func23, Tryz.ntmps23
  go_wp2
  go_ret
  exact ⟨rfl, rfl⟩
theorem refer_Cancel_nil (v : Option Addr) (b now : Int) (w : World) : Calls Tryz.prog 26 #[.pointer none, .pointer v, .int .i64 b, .int .i64 now] w fun e w' => e = .returned (.tuple #[.slice none 0 0, .int .i64 1]) ∧ w' = w := by
  go_enter Tryz.func26, Tryz.ntmps26
  go_wp2
  exact bodyPost_ret (v := .tuple #[.slice none 0 0, .int .i64 1]) (by simp [results, Tryz.results26, go_sem]) rfl ⟨rfl, rfl⟩
theorem refer_Kill_nil (g v : Option Addr) (b now : Int) (w : World) : Calls Tryz.prog 24 #[.pointer none, .pointer g, .pointer v, .int .i64 b, .int .i64 now] w fun e w' => e = .returned (.tuple #[.slice none 0 0, .int .i64 1]) ∧ w' = w := by
  go_enter Tryz.func24, Tryz.ntmps24
  go_wp2
  exact bodyPost_ret (v := .tuple #[.slice none 0 0, .int .i64 1]) (by simp [results, Tryz.results24, go_sem]) rfl ⟨rfl, rfl⟩
theorem refer_Service_nil (g v : Option Addr) (now : Int) (w : World) : Calls Tryz.prog 17 #[.pointer none, .pointer g, .pointer v, .int .i64 now] w fun e w' => e = .returned (.slice none 0 0) ∧ Below w.heap.size w w' := by
  go_enter Tryz.func17, Tryz.ntmps17
  go_wp2
  go_ret
  exact ⟨rfl, by exact ((((Below.refl _ w).alloc (Nat.le_refl _) _).alloc (by simp) _).alloc (by simp; omega) _).alloc (by simp; omega) _⟩
end Go.Proofs.YtpkamfbjgdmmoaaGreat
end

section
namespace Go.Proofs.YtpkamfbjgdmmoaaGreat
open Go.RowKit Go.Maps Go.Shelf
attribute [local go_sem] Oper.semAt_some
set_option linter.unusedVariables false
set_option linter.unusedSimpArgs false

theorem rfInfoP : (Tryz.prog.info? 56).map (fun i => (i.zero, i.size, i.bytes)) = some (some (.agg (rfF rf0).toArray), 45, 136) := by kernel_rfl
/-- Numbers and referenda, as a row of referenda. -/
def refP : RowTy Tryz.prog (Int × Rfm) where
  T := 56
  S := 50
  k := 45
  f := fun x => rfF x.2
  len := fun x => by simp [rfF_len]
  one := fun x u hu => (rfF_lit _ u hu).one
  pos := by decide
  small := by decide
  slice := Tryz.underlying50
  info := by
    obtain ⟨i0, hi, hz⟩ := Option.map_eq_some_iff.1 rfInfoP
    simp only [Prod.mk.injEq] at hz
    obtain ⟨h1, h2, h3⟩ := hz
    exact ⟨i0, _, _, hi, h1, h2, rfl, h3, by decide⟩
  row := ⟨_, Tryz.underlying56, rfl⟩
def bsRf (ps : Array (Nat × Value)) : Sem Value := Instr.buildSlice 50 1 ps
theorem bsRf_hide (ps : Array (Nat × Value)) : Instr.buildSlice 50 1 ps = bsRf ps := rfl
set_option maxRecDepth 100000 in
theorem run_bsRf (x : Rfm) (w : World) : (bsRf #[(0, .agg (rfS.f x).toArray)]).run Tryz.prog w = .ok (.slice (some ⟨w.heap.size, 0, none⟩) 1 1) (w.alloc (.cells (rfS.f x).toArray 56)) := by
  obtain ⟨e0, e1, h, e3, e4, e5, e6, e7, e8, e9, f0, f1, f2, f3, ok⟩ := x
  obtain ⟨a0, a1, a2, a3, a4, a5, a6, a7, a8, a9, b0, b1, b2, b3, b4, b5, b6, b7, b8, b9, c0, c1, c2, c3, c4, c5, c6, c7, c8, c9, d0, d1, rfl⟩ := list32 h ok
  obtain ⟨i0, hi, hz⟩ := Option.map_eq_some_iff.1 rfInfoP
  simp only [Prod.mk.injEq] at hz
  obtain ⟨h1, h2, h3⟩ := hz
  exact run_buildSlice w _ _ 1 _ _ i0 _ Tryz.underlying50 hi h1 (by rw [h2]; decide) (by rw [h2]; decide) (by rw [h2]; kernel_rfl)
theorem rowR_get {β : Type} : ∀ (l : List β) (k i : Nat), (rowR k l)[i]? = (l[i]?).map (fun x => (((k + i : Nat) : Int), x))
  | [], k, i => by simp [rowR]
  | x :: l, k, 0 => by simp [rowR]
  | x :: l, k, i + 1 => by rw [rowR, List.getElem?_cons_succ, rowR_get l, List.getElem?_cons_succ]; congr 1; funext y; congr 1; omega
theorem rowR_pre {β : Type} {l : List β} {pre : List (Int × β)} {x : Int × β} (h : (pre ++ [x]) <+: rowR 0 l) : x.1 = (pre.length : Int) := by
  obtain ⟨t, ht⟩ := h
  have : (rowR 0 l)[pre.length]? = some x := by rw [← ht]; simp
  rw [rowR_get] at this
  obtain ⟨y, -, hy⟩ := Option.map_eq_some_iff.1 this
  rw [← hy]
  simp
set_option maxHeartbeats 4000000 in
set_option maxRecDepth 100000 in
attribute [local go_sem ↓] loadSt_R_hide bsRf_hide in
theorem law12_allW (p : Option Addr) (R : List Rfm) (w : World) (hcall : ∀ w', Below w.heap.size w w' → Calls Tryz.prog 57 #[.pointer p] w' fun e w'' => ∃ bx v, e = .returned (.func (.func 119) #[] #[.pointer (some ⟨bx, 0, none⟩)]) ∧ Boxed w'' bx 224 v ∧ OwnR pair_R (bx + 1) v (rowR 0 R) w'' ∧ w'.heap.size ≤ bx ∧ Below w'.heap.size w' w'') (hlen : R.length ≤ 50) :
    Calls Tryz.prog 18 #[.pointer p] w fun e w' => ∃ v, e = .returned (.tuple #[v, .bool true]) ∧ OwnR refP w.heap.size v (rowR 0 R) w' ∧ Below w.heap.size w w' := by
  obtain ⟨xs, hxs⟩ : ∃ xs, xs = rowR 0 R := ⟨_, rfl⟩
  have hxl : xs.length ≤ 50 := by rw [hxs, rowR_len]; exact hlen
  have hpr : ∀ (pre : List (Int × Rfm)) (x : Int × Rfm), (pre ++ [x]) <+: xs → x.1 = (pre.length : Int) := fun pre x h => rowR_pre (l := R) (by rw [← hxs]; exact h)
  rw [← hxs] at hcall ⊢
  have HPR := Lib.hid hpr
  have HXL := Lib.hid hxl
  clear hxl hpr hxs
  refine (callsIn_wide (n := 2)).1 ?_
  have q1 : ∀ g lb w, (binOp .eql 130 (.func g #[] lb) .nilFunc).run Tryz.prog w = .ok (.bool false) w := fun g lb w => by kernel_rfl
  refine callsIn_of_wp_marks Tryz.func18 rfl trivial ?_ rfl
  simp only [Tryz.ntmps18, List.size_toArray, List.length_cons, List.length_nil, Nat.reduceAdd, Nat.reduceSub, Array.replicate_succ, Array.replicate_zero, List.push_toArray, List.append_toArray, List.nil_append, List.cons_append]
  have hb2 : Below w.heap.size w ((w.alloc (.cells #[.slice none 0 0] 50)).alloc (.cells #[.bool false] 4)) := ((Below.refl _ w).alloc (Nat.le_refl _) _).alloc (by simp) _
  have hc := hcall _ hb2
  have HC := Lib.hid (And.intro hc hb2)
  have HLN := Lib.hid hlen
  clear hcall hlen hc hb2
  gi_wp2_with (first
    | (gi_at_call 57; refine (callsIn_wide.2 HC.out.1).mono ?_; rintro e wa ⟨bx, v0, rfl, hbx, ho, hn, hba⟩; have H0 := Lib.hid (And.intro hbx (And.intro ho (And.intro hn hba))); clear hbx ho hn hba)
    | (refine ⟨trivial, ?_⟩; gi_at_call 57; refine (callsIn_wide.2 HC.out.1).mono ?_; rintro e wa ⟨bx, v0, rfl, hbx, ho, hn, hba⟩; have H0 := Lib.hid (And.intro hbx (And.intro ho (And.intro hn hba))); clear hbx ho hn hba)
    | fail)
  have hit0 := now1_iter_R 0 bx v0 xs wa H0.out.1 H0.out.2.1.reads (by have := HXL.out; omega) (fun k => k < wa.heap.size) H0.out.1.lt (fun k hk => (H0.out.2.1.block hk).2)
  have HIT := Lib.hid (And.intro hit0 (And.intro enters_now_R H0.out.2.2.2))
  clear hit0 H0
  obtain ⟨s, hs⟩ : ∃ s, s = w.heap.size := ⟨_, rfl⟩
  obtain ⟨rb, hrb⟩ : ∃ rb, rb = s + 1 := ⟨_, rfl⟩
  obtain ⟨ob, hob⟩ : ∃ ob, ob = wa.heap.size := ⟨_, rfl⟩
  obtain ⟨w1, hw1⟩ : ∃ w1, w1 = wa.alloc (.cells #[.slice none 0 0] 50) := ⟨_, rfl⟩
  rw [← hw1]
  have hBa : Below w.heap.size w wa := HC.out.2.trans (HIT.out.2.2.mono HC.out.2.size)
  have hsza : s + 2 ≤ wa.heap.size := by have := HIT.out.2.2.size; rw [World.size_alloc, World.size_alloc] at this; omega
  have hB1a : Below wa.heap.size wa w1 := by rw [hw1]; exact (Below.refl _ _).alloc (Nat.le_refl _) _
  have hB : Below w.heap.size w w1 := hBa.trans (hB1a.mono hBa.size)
  have hsz : w1.heap.size = ob + 1 := by rw [hw1, hob]; simp
  have hx0 : Boxed ((w.alloc (.cells #[.slice none 0 0] 50)).alloc (.cells #[.bool false] 4)) s 50 (.slice none 0 0) := by rw [hs]; exact (Boxed.new w _ _).alloc _
  have hx1 : Boxed ((w.alloc (.cells #[.slice none 0 0] 50)).alloc (.cells #[.bool false] 4)) rb 4 (.bool false) := by
    have := Boxed.new (w.alloc (.cells #[.slice none 0 0] 50)) 4 (.bool false)
    rw [World.size_alloc] at this
    rw [hrb, hs]; exact this
  have x0 : Boxed w1 s 50 (.slice none 0 0) := (hB1a.block s (by omega)).trans ((HIT.out.2.2.block s hx0.lt).trans hx0)
  have x1 : Boxed w1 rb 4 (.bool false) := (hB1a.block rb (by omega)).trans ((HIT.out.2.2.block rb hx1.lt).trans hx1)
  have x2 : Boxed w1 ob 50 (.slice none 0 0) := by rw [hw1, hob]; exact Boxed.new wa _ _
  rw [← hs, ← hrb, ← hob]
  have l0 : s < rb := by omega
  have l1 : rb < ob := by omega
  have l2 : ob < w1.heap.size := by omega
  have HB1 := Lib.hid (And.intro hB hB1a)
  have HS := Lib.hid (And.intro hs (And.intro hsz hob))
  have HR := Lib.hid (And.intro x0 x1)
  clear hw1 hs hrb hB hB1a hBa hsz hsza hx0 hx1 x0 x1 hob
  refine range_outerAI (n := 0) (gf := 119) (lb := #[.pointer (some ⟨bx, 0, none⟩)]) rfl HIT.out.2.1 HIT.out.1 (Grow.of_below HB1.out.2) (fun k hk => ⟨hk, HB1.out.2.block k hk⟩) (fun _ => rfl)
    (fun k => k = ob) (by rintro k rfl; exact ⟨l2, fun h => by have := HS.out.2.2; omega⟩) (ColI refP w1.heap.size ob) (fun _ _ _ _ => False) (ColI.stab l2) (fun c _ _ _ h => h.elim)
    ⟨_, x2, OwnR.nil _ _, fun k => ⟨fun h => h.elim, fun h => by cases h⟩, Nat.le_refl _⟩
    (fun x N => { tmps := #[.pointer p, undef, .pointer (some ⟨s, 0, none⟩), .pointer (some ⟨rb, 0, none⟩), .func (.func 119) #[] #[.pointer (some ⟨bx, 0, none⟩)], .pointer (some ⟨ob, 0, none⟩), .int .i64 x.1, .pointer (some ⟨N, 0, none⟩), .pointer p, .func (.func 119) #[] #[.pointer (some ⟨bx, 0, none⟩)], .func (.func 119) #[] #[.pointer (some ⟨bx, 0, none⟩)], .bool false, .func (.func 119) #[] #[.pointer (some ⟨bx, 0, none⟩)], .int .i64 x.1, .agg (rfS.f x.2).toArray, undef, undef, undef, undef, undef, undef, undef, undef, undef, undef, undef, undef, undef], defers := [] })
    (fun x N W => W.heap[N]? = some (.cells (rfS.f x.2).toArray 56 (0, 0))) (fun x N W W' h e => e.trans h) ?assign ?body ?done ?stop
  case assign =>
    intro l x W K hK
    simp only [encs_R]
    gi_wp2_with (first
      | (refine wplIn_allocS (s := rfS) rfl rfl rfl ?_)
      | (refine wplIn_storeS (s := rfS) (t := x.2) (b := W.heap.size) _ _ rfl rfl rfl rfl rfl (World.alloc_heap_new W _) (zeroS rfS) ?_; rw [newS])
      | fail)
    exact hK _ ((Below.refl _ W).alloc (Nat.le_refl _) _) (by simp) (World.alloc_heap_new _ _)
  case body =>
    rintro l pre x Φ N W hpx ⟨v1, hI⟩ hl1 hΦ - hlN hNW hAt
    have hpl := hpx.length_le
    rw [List.length_append, List.length_singleton] at hpl
    have hpl2 : pre.length ≤ 49 := by have := HXL.out; omega
    have hx1 := HPR.out _ _ hpx
    obtain ⟨ao1, cap1, rfl⟩ := hI.own.lenOf
    obtain ⟨pl, hm⟩ : ∃ pl, pl = pre.length := ⟨_, rfl⟩
    rw [← hm] at hI hx1
    have c0 := hI.bx.cell
    have hlW : ob < W.heap.size := by have := hI.sz; omega
    have hsW : w1.heap.size ≤ W.heap.size := hI.sz
    obtain ⟨i, hi⟩ : ∃ i, i = x.1 := ⟨_, rfl⟩
    rw [← hi] at hx1 ⊢
    have g1 : (i != (pl : Int)) = false := by simp [hx1]
    have g2 : ¬ i > 100 := by omega
    have lN : (loadSt_R (.pointer (some ⟨N, 0, none⟩))).run Tryz.prog W = .ok (.agg (rfS.f x.2).toArray) W := run_loadSt_R (rangeAt_whole (T := rfS.T) hAt)
    have bS := run_bsRf x.2 W
    have HI := Lib.hid hI
    have HPH := Lib.hid hΦ
    have HPL := Lib.hid hpl2
    clear hI hΦ hm hpl hpl2 hAt hx1 hi
    gi_wp2_with (first
      | (refine wplIn_appR (r := refP) (y := x) rfl rfl rfl rfl ((OwnR.of HI.out.own (Nat.le_refl _) (fun k hk => Below.heap_alloc _ _ _ (HI.out.own.block hk).2))) (rangeAt_whole (T := 56) (by exact World.alloc_heap_new _ _)) (by have := HPL.out; omega) (by have h := hsW; rw [World.size_alloc]; omega) ?_; intro v' w3 hO hg3 hat3 hne; have cB : w3.cell? ⟨ob, 0, none⟩ = some (.slice ao1 pl cap1) := (World.cell?_of_block (a := ⟨ob, 0, none⟩) ((hg3.block ob (by rw [World.size_alloc]; omega) (fun e => by have := (HI.out.own.block e.symm).1; omega)).trans (Below.heap_alloc _ _ _ hlW))).trans c0; have fB : w3.frozen? ⟨ob, 0, none⟩ = false := ((HI.out.bx.alloc _).kept hg3 (fun e => by have := (HI.out.own.block e.symm).1; omega)).frozen; obtain ⟨ao2, m2, cap2, hm2, rfl⟩ : ∃ ao m cap, m = pre.length + 1 ∧ v' = .slice ao m cap := by { obtain ⟨a, c, e⟩ := hO.lenOf; exact ⟨a, _, c, by simp, e⟩ }; have hm3 : True := trivial; have HO := Lib.hid hO; have HG3 := Lib.hid hg3; have HAT := Lib.hid hat3; clear hO hg3 hat3 hm2 hne)
      | fail)
    exact ColC.step HI.out l2 rfl ((Below.refl _ W).alloc (Nat.le_refl _) _) HO.out HG3.out HAT.out
  case done =>
    rintro D Φ W3 ⟨v3, hC⟩ hon hD hnD hK
    obtain ⟨x0, x1⟩ := HR.out
    have hkeep : ∀ k, k < ob → W3.heap[k]? = w1.heap[k]? := fun k hk => hon.block k (by omega) (by omega) (fun h => h)
    have y0 : Boxed W3 s 50 (.slice none 0 0) := (hkeep s (by omega)).trans x0
    have y1 : Boxed W3 rb 4 (.bool false) := (hkeep rb (by omega)).trans x1
    obtain ⟨ao1, cp1, rfl⟩ := hC.own.lenOf
    obtain ⟨m1, hm1⟩ : ∃ m, m = xs.length := ⟨_, rfl⟩
    rw [← hm1] at hC
    have c0 := hC.bx.cell
    have c2 := y0.cell
    have c4 := y1.cell
    have f2 := y0.frozen
    have f4 := y1.frozen
    have hiff := hC.iff
    have hpost : ∀ W5, W5 = (W3.setCell ⟨s, 0, none⟩ (.slice ao1 m1 cp1)).setCell ⟨rb, 0, none⟩ (.bool true) →
        W5.heap[D]? = some (.deferred (some [])) ∧ OwnR refP w.heap.size (.slice ao1 m1 cp1) xs (W5.putObj D (.deferred none)) ∧ Below w.heap.size w (W5.putObj D (.deferred none)) ∧
        (W5.putObj D (.deferred none)).cell? ⟨s, 0, none⟩ = some (.slice ao1 m1 cp1) ∧ (W5.putObj D (.deferred none)).cell? ⟨rb, 0, none⟩ = some (.bool true) := by
      intro W5 hW5
      obtain ⟨hs, hsz, hob⟩ := HS.out
      have hDl : D < W3.heap.size := (Array.getElem?_eq_some_iff.1 hK).1
      have hb : ∀ k, ob ≤ k → W5.heap[k]? = W3.heap[k]? := fun k hk => by
        rw [hW5, Below.heap_setCell _ _ _ k (by show k ≠ rb; omega), Below.heap_setCell _ _ _ k (by show k ≠ s; omega)]
      have b0 : Boxed W5 s 50 (.slice ao1 m1 cp1) := by
        rw [hW5]
        exact (Below.heap_setCell _ _ _ s (by show s ≠ rb; omega)).trans (y0.set _)
      have b2 : Boxed W5 rb 4 (.bool true) := by
        rw [hW5]
        have : Boxed (W3.setCell ⟨s, 0, none⟩ (.slice ao1 m1 cp1)) rb 4 (.bool false) := (Below.heap_setCell _ _ _ rb (by show rb ≠ s; omega)).trans y1
        exact this.set _
      have hput : ∀ k, k ≠ D → (W5.putObj D (.deferred none)).heap[k]? = W5.heap[k]? := fun k hk => put_other hk
      have hO2 := hon
      have hw2 := HB1.out.1
      refine ⟨(hb D (by omega)).trans hK, hC.own.of (by omega) (fun k hk => ?_), ⟨?_, ?_, ?_, ?_, fun k hk => ?_⟩, ((Boxed.cell (show Boxed (W5.putObj D (.deferred none)) s _ _ from (hput s (by omega)).trans b0))), ((Boxed.cell (show Boxed (W5.putObj D (.deferred none)) rb _ _ from (hput rb (by omega)).trans b2)))⟩
      · rw [hput k (fun e => hnD ((hiff D).2 (by rw [← e]; exact hk)))]; exact hb k (by have := (hC.own.block hk).1; omega)
      · rw [hW5]; exact hO2.grow.os.trans hw2.os
      · rw [hW5]; exact hO2.grow.tape.trans hw2.tape
      · rw [hW5]; exact hO2.grow.output.trans hw2.output
      · have h1 := hO2.grow.size; have h2 := hw2.size; rw [hW5]; simp [World.putObj, World.setCell]; omega
      · rw [hput k (by omega), hW5, Below.heap_setCell _ _ _ k (by show k ≠ rb; omega), Below.heap_setCell _ _ _ k (by show k ≠ s; omega), hO2.block k (by omega) (by omega) (fun h => h)]
        exact hw2.block k (by omega)
    have HP := Lib.hid hpost
    clear hpost hC hon hK hkeep y0 y1 x0 x1 hm1
    gi_wp2
    obtain ⟨W5, hW5⟩ : ∃ W5, W5 = (W3.setCell ⟨s, 0, none⟩ (.slice ao1 m1 cp1)).setCell ⟨rb, 0, none⟩ (.bool true) := ⟨_, rfl⟩
    rw [← hW5]
    obtain ⟨p1, p2, p4, p5, p7⟩ := HP.out W5 hW5
    refine ⟨by simp, .inl ⟨_, _, rfl, run_takeDeferred p1, ?_⟩⟩
    obtain ⟨W6, hW6⟩ : ∃ W6, W6 = W5.putObj D (.deferred none) := ⟨_, rfl⟩
    rw [← hW6] at p2 p4 p5 p7 ⊢
    clear hW6 hW5
    exact ⟨.tuple #[.slice ao1 m1 cp1, .bool true], by simp [results, Tryz.results18, go_sem, p5, p7], _, rfl, p2, p4⟩
  case stop =>
    rintro D Φ c pre W3 hpre h
    exact h.elim
theorem law12_all {r N : Nat} {ts : List Trk} {R : List Rfm} {F : FP} {w : World} (h : ReX r N ts R F w) (hl : R.length ≤ 50) :
    Calls Tryz.prog 18 #[.pointer (some ⟨r, 0, none⟩)] w fun e w' => ∃ v, e = .returned (.tuple #[v, .bool true]) ∧ OwnR refP w.heap.size v (rowR 0 R) w' ∧ Below w.heap.size w w' :=
  law12_allW _ R w (fun w' hb => refer_All (h.below hb) (by omega)) hl
theorem law12_all_nil (w : World) :
    Calls Tryz.prog 18 #[.pointer none] w fun e w' => ∃ v, e = .returned (.tuple #[v, .bool true]) ∧ OwnR refP w.heap.size v (rowR 0 []) w' ∧ Below w.heap.size w w' :=
  law12_allW _ [] w (fun w' hb => refer_All_nil w') (by simp)
end Go.Proofs.YtpkamfbjgdmmoaaGreat
end

section
namespace Go.Proofs.YtpkamfbjgdmmoaaGreat
open Go.RowKit Go.Maps Go.Shelf
theorem Pq.All {p r g vb : Nat} {ts : List Trk} {s : St12} {w0 w : World} (h : Pq p r g vb ts s w0 w) {n : Nat} (hn : s.R.length = n) (hl : n ≤ 50) : Calls Tryz.prog 18 #[.pointer (some ⟨r, 0, none⟩)] w fun e w' => ∃ ao cap, e = .returned (.tuple #[.slice ao n cap, .bool true]) ∧ OwnR refP w.heap.size (.slice ao n cap) (rowR 0 s.R) w' ∧ Below w.heap.size w w' := by
  obtain ⟨Z, h1, lift⟩ := P12.via h
  obtain ⟨FR, hre, -⟩ := h1.re
  refine (law12_all hre (by omega)).mono ?_
  rintro e w' ⟨v, rfl, ho, hb⟩
  obtain ⟨ao, cp, hv⟩ := ho.lenOf
  rw [rowR_len, hn] at hv
  subst hv
  exact ⟨ao, cp, rfl, ho, hb⟩
end Go.Proofs.YtpkamfbjgdmmoaaGreat
end
