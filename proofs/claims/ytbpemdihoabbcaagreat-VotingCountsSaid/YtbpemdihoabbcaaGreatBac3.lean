/- A part. -/
import Derived.Test.YtbpemdihoabbcaaGreatUC
import Derived.Test.YtbpemdihoabbcaaGreatMhl
import Derived.Test.YtbpemdihoabbcaaGreatRyc
namespace Go.Proofs.YtbpemdihoabbcaaGreat
set_option linter.unusedVariables false
set_option linter.unusedSimpArgs false
set_option maxRecDepth 100000
set_option maxHeartbeats 8000000
open Go.RowKit Go.Maps Go.Shelf
set_option linter.constructorNameAsVariable false
section
variable {d : Bp} {now : Int} {s : Sx} {F : FP} {w w' : World}
def wfI3 (a : Int) : Prop := (Lit.int .i64 a).wf = true
theorem voteAt {w : World} {nb : Nat} {a r t st who lv n : Int} {x : Bal} (h : w.heap[nb]? = some (.cells #[.int .i64 3, .int .i64 a, .int .i64 r, .int .i64 t, .int .i64 st, .int .i64 who, .int .i64 lv, .int .i64 n, .int .i64 x.k, .bool x.aye, .int .i64 x.l, .int .i64 x.a, .int .i64 x.n, .int .i64 x.s] 30 (0, 0))) : (loadSt_V (.pointer (some ⟨nb, 8, none⟩))).run Tryz.prog w = .ok (.agg #[.int .i64 x.k, .bool x.aye, .int .i64 x.l, .int .i64 x.a, .int .i64 x.n, .int .i64 x.s]) w :=
 loadV_at (x := x) (fun j u hj => by
  have hj6 : j < 6 := (List.getElem?_eq_some_iff.1 hj).1
  rw [World.cell?, h]
  match j, hj6, hj with
  | 0, _, hj => cases hj; rfl
  | 1, _, hj => cases hj; rfl
  | 2, _, hj => cases hj; rfl
  | 3, _, hj => cases hj; rfl
  | 4, _, hj => cases hj; rfl
  | 5, _, hj => cases hj; rfl)
attribute [local go_sem ↓] loadSt_V_hide in
theorem law11_act_Vote (a r t st who lv n : Int) (x : Bal) (wa : (Lit.int .i64 a).wf = true) (wr : (Lit.int .i64 r).wf = true) (wt : (Lit.int .i64 t).wf = true) (h0 : (bwM d now s s).is F w) (hs : s.Ok) (hN : d.N ≤ d.p) : Calls Tryz.prog 8 #[.pointer (some ⟨d.p, 0, none⟩), .agg #[.int .i64 3, .int .i64 a, .int .i64 r, .int .i64 t, .int .i64 st, .int .i64 who, .int .i64 lv, .int .i64 n, .int .i64 x.k, .bool x.aye, .int .i64 x.l, .int .i64 x.a, .int .i64 x.n, .int .i64 x.s]] w fun e w' => e = .returned (.bool true) ∧ (bwM d now ⟨s.A, voteM s.S s.A s.M a r x, voteS s.S s.A a r x⟩ ⟨s.A, voteM s.S s.A s.M a r x, voteS s.S s.A a r x⟩).to F w w' ∧ (⟨s.A, voteM s.S s.A s.M a r x, voteS s.S s.A a r x⟩ : Sx).Ok := by
 obtain ⟨nb, hnb⟩ : ∃ nb, nb = w.heap.size := ⟨_, rfl⟩
 obtain ⟨OB, hOB⟩ : ∃ OB : Obj, OB = .cells #[.int .i64 3, .int .i64 a, .int .i64 r, .int .i64 t, .int .i64 st, .int .i64 who, .int .i64 lv, .int .i64 n, .int .i64 x.k, .bool x.aye, .int .i64 x.l, .int .i64 x.a, .int .i64 x.n, .int .i64 x.s] 30 := ⟨_, rfl⟩
 have s0 := BwA.start h0 OB
 have hf := bw_facts h0 hs hN
 obtain ⟨w0, hw0⟩ : ∃ w0, w0 = w.alloc OB := ⟨_, rfl⟩
 obtain ⟨s2, hs2⟩ : ∃ s2 : Sx, s2 = ⟨s.A, voteM s.S s.A s.M a r x, voteS s.S s.A a r x⟩ := ⟨_, rfl⟩
 obtain ⟨E, hE⟩ : ∃ E, E = voteE s.S s.A a r x := ⟨_, rfl⟩
 have hfin : ∀ W, BwA d now s2 s2 nb (OB) F w0  W → (bwM d now s2 s2).to F w W := fun W h => by
  rw [hw0, hnb] at h
  exact Mem.to_boxed h
 rw [← hw0, ← hnb] at s0
 rw [← hs2]
 have c1 : ∀ W, BwA d now s s nb (OB) F w0  W → Calls Tryz.prog 22 #[.pointer (some ⟨d.vb, 0, none⟩), .pointer (some ⟨d.g, 0, none⟩), .int .i64 a, .int .i64 r, .agg #[.int .i64 x.k, .bool x.aye, .int .i64 x.l, .int .i64 x.a, .int .i64 x.n, .int .i64 x.s]] W fun e w' => e = .returned (.int .i64 E) ∧ BwA d now s2 s nb (OB) F w0  w' ∧ s2.Ok := fun W h => by
  obtain ⟨Zn, hx, ht⟩ := h.pv hs hN
  rw [hE, hs2]
  refine (hx.vVote wa wr x).mono ?_
  rintro e w' ⟨he, hw⟩
  exact ⟨he, ht ⟨s.A, voteM s.S s.A s.M a r x, voteS s.S s.A a r x⟩ _ hw, by obtain ⟨Z', q1, -⟩ := hw; exact ⟨q1.inv, q1.key⟩⟩
 have c2 : ∀ W, BwA d now s2 s nb (OB) F w0  W → Calls Tryz.prog 33 #[.pointer (some ⟨d.y, 0, none⟩), .pointer (some ⟨d.x, 0, none⟩), .int .i64 a, .int .i64 r, .agg #[.int .i64 x.k, .bool x.aye, .int .i64 x.l, .int .i64 x.a, .int .i64 x.n, .int .i64 x.s]] W fun e w' => e = .returned (.int .i64 E) ∧ BwA d now s2 s2 nb (OB) F w0  w' := fun W h2 => by
  obtain ⟨B, hx, ht⟩ := h2.rr
  rw [hE]
  refine (rr_Vote hx hs.inv hf.1 hf.2 a r x).mono ?_
  rintro e w' ⟨he, hw⟩
  refine ⟨he, ?_⟩
  have := ht ⟨s.A, voteM s.S s.A s.M a r x, voteS s.S s.A a r x⟩ _ hw
  rw [← hs2] at this
  exact this
 rw [hOB] at s0 c1 c2 hfin hw0
 have C1 := Lib.hid c1
 have C2 := Lib.hid c2
 have S0 := Lib.hid s0
 have S0d := Lib.hid s0.drew
 have HF := Lib.hid hfin
 have HNB := Lib.hid hnb
 have HW := Lib.hid hw0
 have q0 : w0.cell? ⟨nb, 0, none⟩ = some (.int .i64 3) := by rw [World.cell?, BwA.box s0]; rfl
 clear c1 c2 hE h0 s0 hs hf hN hnb hw0 hOB hs2 hfin OB wa wr wt
 go_enter Tryz.func8, Tryz.ntmps8
 go_upto_region 1 with fail
 rw [← HW.out, ← HNB.out]
 go_upto_region 7 with fail
 have mixed : Tryz.prog.follows .mixedOrders = true := by kernel_rfl
 first
  | go_region_held3 (fun w' => w'.cell? ⟨d.p, 0, none⟩ = some (.pointer (some ⟨d.g, 0, none⟩)) ∧ w'.cell? ⟨d.p, 1, none⟩ = some (.pointer (some ⟨d.vb, 0, none⟩)) ∧ w'.cell? ⟨d.p, 2, none⟩ = some (.pointer (some ⟨d.x, 0, none⟩)) ∧ w'.cell? ⟨d.p, 3, none⟩ = some (.pointer (some ⟨d.y, 0, none⟩)) ∧ w'.cell? ⟨nb, 1, none⟩ = some (.int .i64 a) ∧ w'.cell? ⟨nb, 2, none⟩ = some (.int .i64 r) ∧ (loadSt_V (.pointer (some ⟨nb, 8, none⟩))).run Tryz.prog w' = .ok (.agg #[.int .i64 x.k, .bool x.aye, .int .i64 x.l, .int .i64 x.a, .int .i64 x.n, .int .i64 x.s]) w') (first | exact ⟨(BwA.cells S0.out).1, (BwA.cells S0.out).2.1, (BwA.cells S0.out).2.2.1, (BwA.cells S0.out).2.2.2.1, by rw [World.cell?, BwA.box S0.out]; rfl, by rw [World.cell?, BwA.box S0.out]; rfl, voteAt (BwA.box S0.out)⟩ | exact ⟨(BwA.cells S0d.out).1, (BwA.cells S0d.out).2.1, (BwA.cells S0d.out).2.2.1, (BwA.cells S0d.out).2.2.2.1, by rw [World.cell?, BwA.box S0d.out]; rfl, by rw [World.cell?, BwA.box S0d.out]; rfl, voteAt (BwA.box S0d.out)⟩ | exact ⟨(BwA.cells S1.out).1, (BwA.cells S1.out).2.1, (BwA.cells S1.out).2.2.1, (BwA.cells S1.out).2.2.2.1, by rw [World.cell?, BwA.box S1.out]; rfl, by rw [World.cell?, BwA.box S1.out]; rfl, voteAt (BwA.box S1.out)⟩ | exact ⟨(BwA.cells S2.out).1, (BwA.cells S2.out).2.1, (BwA.cells S2.out).2.2.1, (BwA.cells S2.out).2.2.2.1, by rw [World.cell?, BwA.box S2.out]; rfl, by rw [World.cell?, BwA.box S2.out]; rfl, voteAt (BwA.box S2.out)⟩) (first
   | (go_at_call 22; refine (C1.out _ S0d.out).mono ?_; rintro e w1 ⟨rfl, hs, hok⟩; have S1 := Lib.hid hs; have OK1 := Lib.hid hok; clear hs hok)
   | (go_at_call 33; refine (C2.out _ S1.out).mono ?_; rintro e w2 ⟨rfl, hs⟩; have S2 := Lib.hid hs; clear hs)
   | fail)
  | fail
 go_wp2_with fail
 exact bodyPost_ret (v := .bool true) (by simp [results, Tryz.results8, go_sem]) rfl ⟨rfl, HF.out _ S2.out, OK1.out⟩
end
end Go.Proofs.YtbpemdihoabbcaaGreat
