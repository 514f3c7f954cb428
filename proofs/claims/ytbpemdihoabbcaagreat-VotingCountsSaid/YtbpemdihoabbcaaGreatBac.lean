/- A part. -/
import Derived.Test.YtbpemdihoabbcaaGreatUC
import Derived.Test.YtbpemdihoabbcaaGreatMhl
namespace Go.Proofs.YtbpemdihoabbcaaGreat
set_option linter.unusedVariables false
set_option linter.unusedSimpArgs false
set_option maxRecDepth 100000
set_option maxHeartbeats 8000000
open Go.RowKit Go.Maps Go.Shelf
set_option linter.constructorNameAsVariable false
section
variable {d : Bp} {now : Int} {s : Sx} {F : FP} {w w' : World}
def wfI (a : Int) : Prop := (Lit.int .i64 a).wf = true
theorem law11_act_Open (a r t st who lv n : Int) (x : Bal) (wa : (Lit.int .i64 a).wf = true) (wr : (Lit.int .i64 r).wf = true) (wt : (Lit.int .i64 t).wf = true) (h0 : (bwM d now s s).is F w) (hs : s.Ok) (hN : d.N ≤ d.p) : Calls Tryz.prog 8 #[.pointer (some ⟨d.p, 0, none⟩), .agg #[.int .i64 1, .int .i64 a, .int .i64 r, .int .i64 t, .int .i64 st, .int .i64 who, .int .i64 lv, .int .i64 n, .int .i64 x.k, .bool x.aye, .int .i64 x.l, .int .i64 x.a, .int .i64 x.n, .int .i64 x.s]] w fun e w' => e = .returned (.bool true) ∧ (bwM d now ⟨s.A, s.M, openS s.S r t⟩ ⟨s.A, s.M, openS s.S r t⟩).to F w w' ∧ (⟨s.A, s.M, openS s.S r t⟩ : Sx).Ok := by
 obtain ⟨nb, hnb⟩ : ∃ nb, nb = w.heap.size := ⟨_, rfl⟩
 obtain ⟨OB, hOB⟩ : ∃ OB : Obj, OB = .cells #[.int .i64 1, .int .i64 a, .int .i64 r, .int .i64 t, .int .i64 st, .int .i64 who, .int .i64 lv, .int .i64 n, .int .i64 x.k, .bool x.aye, .int .i64 x.l, .int .i64 x.a, .int .i64 x.n, .int .i64 x.s] 30 := ⟨_, rfl⟩
 have s0 := BwA.start h0 OB
 have hf := bw_facts h0 hs hN
 obtain ⟨w0, hw0⟩ : ∃ w0, w0 = w.alloc OB := ⟨_, rfl⟩
 obtain ⟨s2, hs2⟩ : ∃ s2 : Sx, s2 = ⟨s.A, s.M, openS s.S r t⟩ := ⟨_, rfl⟩
 obtain ⟨E, hE⟩ : ∃ E, E = openE s.S.P r t := ⟨_, rfl⟩
 have hfin : ∀ W, BwA d now s2 s2 nb (OB) F w0  W → (bwM d now s2 s2).to F w W := fun W h => by
  rw [hw0, hnb] at h
  exact Mem.to_boxed h
 rw [← hw0, ← hnb] at s0
 rw [← hs2]
 have c1 : ∀ W, BwA d now s s nb (OB) F w0  W → Calls Tryz.prog 20 #[.pointer (some ⟨d.vb, 0, none⟩), .int .i64 r, .int .i64 t] W fun e w' => e = .returned (.int .i64 E) ∧ BwA d now s2 s nb (OB) F w0  w' ∧ s2.Ok := fun W h => by
  obtain ⟨Zn, hx, ht⟩ := h.pv hs hN
  rw [hE, hs2]
  refine (hx.vOpen r t).mono ?_
  rintro e w' ⟨he, hw⟩
  exact ⟨he, ht ⟨s.A, s.M, openS s.S r t⟩ _ hw, by obtain ⟨Z', q1, -⟩ := hw; exact ⟨q1.inv, q1.key⟩⟩
 have c2 : ∀ W, BwA d now s2 s nb (OB) F w0  W → Calls Tryz.prog 31 #[.pointer (some ⟨d.y, 0, none⟩), .int .i64 r, .int .i64 t] W fun e w' => e = .returned (.int .i64 E) ∧ BwA d now s2 s2 nb (OB) F w0  w' := fun W h2 => by
  obtain ⟨B, hx, ht⟩ := h2.ry
  rw [hE]
  refine (ryS_Open hx hs.inv r t).mono ?_
  rintro e w' ⟨he, hw⟩
  refine ⟨he, ?_⟩
  have := ht _ _ hw
  rw [← hs2] at this
  exact this
 rw [hOB] at s0 c1 c2 hfin hw0
 have C1 := Lib.hid c1
 have C2 := Lib.hid c2
 have S0 := Lib.hid s0
 have S0d := Lib.hid s0.drew
 have HF := Lib.hid hfin
 have HNB := Lib.hid hnb
 have HW := Lib.hid hw0
 have q0 : w0.cell? ⟨nb, 0, none⟩ = some (.int .i64 1) := by rw [World.cell?, BwA.box s0]; rfl
 clear c1 c2 hE h0 s0 hs hf hN hnb hw0 hOB hs2 hfin OB wa wr wt
 go_enter Tryz.func8, Tryz.ntmps8
 go_upto_region 1 with fail
 rw [← HW.out, ← HNB.out]
 go_upto_region 3 with fail
 have mixed : Tryz.prog.follows .mixedOrders = true := by kernel_rfl
 first
  | go_region_held3 (fun w' => w'.cell? ⟨d.p, 1, none⟩ = some (.pointer (some ⟨d.vb, 0, none⟩)) ∧ w'.cell? ⟨d.p, 3, none⟩ = some (.pointer (some ⟨d.y, 0, none⟩)) ∧ w'.cell? ⟨nb, 2, none⟩ = some (.int .i64 r) ∧ w'.cell? ⟨nb, 3, none⟩ = some (.int .i64 t)) (first | exact ⟨(BwA.cells S0.out).2.1, (BwA.cells S0.out).2.2.2.1, by rw [World.cell?, BwA.box S0.out]; rfl, by rw [World.cell?, BwA.box S0.out]; rfl⟩ | exact ⟨(BwA.cells S0d.out).2.1, (BwA.cells S0d.out).2.2.2.1, by rw [World.cell?, BwA.box S0d.out]; rfl, by rw [World.cell?, BwA.box S0d.out]; rfl⟩ | exact ⟨(BwA.cells S1.out).2.1, (BwA.cells S1.out).2.2.2.1, by rw [World.cell?, BwA.box S1.out]; rfl, by rw [World.cell?, BwA.box S1.out]; rfl⟩ | exact ⟨(BwA.cells S2.out).2.1, (BwA.cells S2.out).2.2.2.1, by rw [World.cell?, BwA.box S2.out]; rfl, by rw [World.cell?, BwA.box S2.out]; rfl⟩) (first
   | (go_at_call 20; refine (C1.out _ S0d.out).mono ?_; rintro e w1 ⟨rfl, hs, hok⟩; have S1 := Lib.hid hs; have OK1 := Lib.hid hok; clear hs hok)
   | (go_at_call 31; refine (C2.out _ S1.out).mono ?_; rintro e w2 ⟨rfl, hs⟩; have S2 := Lib.hid hs; clear hs)
   | fail)
  | fail
 go_wp2_with fail
 exact bodyPost_ret (v := .bool true) (by simp [results, Tryz.results8, go_sem]) rfl ⟨rfl, HF.out _ S2.out, OK1.out⟩
theorem law11_act_Close (a r t st who lv n : Int) (x : Bal) (wa : (Lit.int .i64 a).wf = true) (wr : (Lit.int .i64 r).wf = true) (wt : (Lit.int .i64 t).wf = true) (h0 : (bwM d now s s).is F w) (hs : s.Ok) (hN : d.N ≤ d.p) : Calls Tryz.prog 8 #[.pointer (some ⟨d.p, 0, none⟩), .agg #[.int .i64 2, .int .i64 a, .int .i64 r, .int .i64 t, .int .i64 st, .int .i64 who, .int .i64 lv, .int .i64 n, .int .i64 x.k, .bool x.aye, .int .i64 x.l, .int .i64 x.a, .int .i64 x.n, .int .i64 x.s]] w fun e w' => e = .returned (.bool true) ∧ (bwM d now ⟨s.A, s.M, closeS s.S r st now⟩ ⟨s.A, s.M, closeS s.S r st now⟩).to F w w' ∧ (⟨s.A, s.M, closeS s.S r st now⟩ : Sx).Ok := by
 obtain ⟨nb, hnb⟩ : ∃ nb, nb = w.heap.size := ⟨_, rfl⟩
 obtain ⟨OB, hOB⟩ : ∃ OB : Obj, OB = .cells #[.int .i64 2, .int .i64 a, .int .i64 r, .int .i64 t, .int .i64 st, .int .i64 who, .int .i64 lv, .int .i64 n, .int .i64 x.k, .bool x.aye, .int .i64 x.l, .int .i64 x.a, .int .i64 x.n, .int .i64 x.s] 30 := ⟨_, rfl⟩
 have s0 := BwA.start h0 OB
 have hf := bw_facts h0 hs hN
 obtain ⟨w0, hw0⟩ : ∃ w0, w0 = w.alloc OB := ⟨_, rfl⟩
 obtain ⟨s2, hs2⟩ : ∃ s2 : Sx, s2 = ⟨s.A, s.M, closeS s.S r st now⟩ := ⟨_, rfl⟩
 obtain ⟨E, hE⟩ : ∃ E, E = closeE s.S.P r st := ⟨_, rfl⟩
 have hfin : ∀ W, BwA d now s2 s2 nb (OB) F w0  W → (bwM d now s2 s2).to F w W := fun W h => by
  rw [hw0, hnb] at h
  exact Mem.to_boxed h
 rw [← hw0, ← hnb] at s0
 rw [← hs2]
 have c1 : ∀ W, BwA d now s s nb (OB) F w0  W → Calls Tryz.prog 21 #[.pointer (some ⟨d.vb, 0, none⟩), .int .i64 r, .int .i64 st, .int .i64 now] W fun e w' => e = .returned (.int .i64 E) ∧ BwA d now s2 s nb (OB) F w0  w' ∧ s2.Ok := fun W h => by
  obtain ⟨Zn, hx, ht⟩ := h.pv hs hN
  rw [hE, hs2]
  refine (hx.vClose r st now).mono ?_
  rintro e w' ⟨he, hw⟩
  exact ⟨he, ht ⟨s.A, s.M, closeS s.S r st now⟩ _ hw, by obtain ⟨Z', q1, -⟩ := hw; exact ⟨q1.inv, q1.key⟩⟩
 have c2 : ∀ W, BwA d now s2 s nb (OB) F w0  W → Calls Tryz.prog 32 #[.pointer (some ⟨d.y, 0, none⟩), .int .i64 r, .int .i64 st, .int .i64 now] W fun e w' => e = .returned (.int .i64 E) ∧ BwA d now s2 s2 nb (OB) F w0  w' := fun W h2 => by
  obtain ⟨B, hx, ht⟩ := h2.ry
  rw [hE]
  refine (ryS_Close hx r st now).mono ?_
  rintro e w' ⟨he, hw⟩
  refine ⟨he, ?_⟩
  have := ht _ _ hw
  rw [← hs2] at this
  exact this
 rw [hOB] at s0 c1 c2 hfin hw0
 have C1 := Lib.hid c1
 have C2 := Lib.hid c2
 have S0 := Lib.hid s0
 have S0d := Lib.hid s0.drew
 have HF := Lib.hid hfin
 have HNB := Lib.hid hnb
 have HW := Lib.hid hw0
 have q0 : w0.cell? ⟨nb, 0, none⟩ = some (.int .i64 2) := by rw [World.cell?, BwA.box s0]; rfl
 clear c1 c2 hE h0 s0 hs hf hN hnb hw0 hOB hs2 hfin OB wa wr wt
 go_enter Tryz.func8, Tryz.ntmps8
 go_upto_region 1 with fail
 rw [← HW.out, ← HNB.out]
 go_upto_region 5 with fail
 have mixed : Tryz.prog.follows .mixedOrders = true := by kernel_rfl
 first
  | go_region_held3 (fun w' => w'.cell? ⟨d.p, 1, none⟩ = some (.pointer (some ⟨d.vb, 0, none⟩)) ∧ w'.cell? ⟨d.p, 3, none⟩ = some (.pointer (some ⟨d.y, 0, none⟩)) ∧ w'.cell? ⟨d.p, 4, none⟩ = some (.int .i64 now) ∧ w'.cell? ⟨nb, 2, none⟩ = some (.int .i64 r) ∧ w'.cell? ⟨nb, 4, none⟩ = some (.int .i64 st)) (first | exact ⟨(BwA.cells S0.out).2.1, (BwA.cells S0.out).2.2.2.1, (BwA.cells S0.out).2.2.2.2, by rw [World.cell?, BwA.box S0.out]; rfl, by rw [World.cell?, BwA.box S0.out]; rfl⟩ | exact ⟨(BwA.cells S0d.out).2.1, (BwA.cells S0d.out).2.2.2.1, (BwA.cells S0d.out).2.2.2.2, by rw [World.cell?, BwA.box S0d.out]; rfl, by rw [World.cell?, BwA.box S0d.out]; rfl⟩ | exact ⟨(BwA.cells S1.out).2.1, (BwA.cells S1.out).2.2.2.1, (BwA.cells S1.out).2.2.2.2, by rw [World.cell?, BwA.box S1.out]; rfl, by rw [World.cell?, BwA.box S1.out]; rfl⟩ | exact ⟨(BwA.cells S2.out).2.1, (BwA.cells S2.out).2.2.2.1, (BwA.cells S2.out).2.2.2.2, by rw [World.cell?, BwA.box S2.out]; rfl, by rw [World.cell?, BwA.box S2.out]; rfl⟩) (first
   | (go_at_call 21; refine (C1.out _ S0d.out).mono ?_; rintro e w1 ⟨rfl, hs, hok⟩; have S1 := Lib.hid hs; have OK1 := Lib.hid hok; clear hs hok)
   | (go_at_call 32; refine (C2.out _ S1.out).mono ?_; rintro e w2 ⟨rfl, hs⟩; have S2 := Lib.hid hs; clear hs)
   | fail)
  | fail
 go_wp2_with fail
 exact bodyPost_ret (v := .bool true) (by simp [results, Tryz.results8, go_sem]) rfl ⟨rfl, HF.out _ S2.out, OK1.out⟩
theorem law11_act_Unvote (a r t st who lv n : Int) (x : Bal) (wa : (Lit.int .i64 a).wf = true) (wr : (Lit.int .i64 r).wf = true) (wt : (Lit.int .i64 t).wf = true) (h0 : (bwM d now s s).is F w) (hs : s.Ok) (hN : d.N ≤ d.p) : Calls Tryz.prog 8 #[.pointer (some ⟨d.p, 0, none⟩), .agg #[.int .i64 4, .int .i64 a, .int .i64 r, .int .i64 t, .int .i64 st, .int .i64 who, .int .i64 lv, .int .i64 n, .int .i64 x.k, .bool x.aye, .int .i64 x.l, .int .i64 x.a, .int .i64 x.n, .int .i64 x.s]] w fun e w' => e = .returned (.bool true) ∧ (bwM d now ⟨s.A, s.M, unvoteS s.S a r now⟩ ⟨s.A, s.M, unvoteS s.S a r now⟩).to F w w' ∧ (⟨s.A, s.M, unvoteS s.S a r now⟩ : Sx).Ok := by
 obtain ⟨nb, hnb⟩ : ∃ nb, nb = w.heap.size := ⟨_, rfl⟩
 obtain ⟨OB, hOB⟩ : ∃ OB : Obj, OB = .cells #[.int .i64 4, .int .i64 a, .int .i64 r, .int .i64 t, .int .i64 st, .int .i64 who, .int .i64 lv, .int .i64 n, .int .i64 x.k, .bool x.aye, .int .i64 x.l, .int .i64 x.a, .int .i64 x.n, .int .i64 x.s] 30 := ⟨_, rfl⟩
 have s0 := BwA.start h0 OB
 have hf := bw_facts h0 hs hN
 obtain ⟨w0, hw0⟩ : ∃ w0, w0 = w.alloc OB := ⟨_, rfl⟩
 obtain ⟨s2, hs2⟩ : ∃ s2 : Sx, s2 = ⟨s.A, s.M, unvoteS s.S a r now⟩ := ⟨_, rfl⟩
 obtain ⟨E, hE⟩ : ∃ E, E = unvoteE s.S a r := ⟨_, rfl⟩
 have hfin : ∀ W, BwA d now s2 s2 nb (OB) F w0  W → (bwM d now s2 s2).to F w W := fun W h => by
  rw [hw0, hnb] at h
  exact Mem.to_boxed h
 rw [← hw0, ← hnb] at s0
 rw [← hs2]
 have c1 : ∀ W, BwA d now s s nb (OB) F w0  W → Calls Tryz.prog 23 #[.pointer (some ⟨d.vb, 0, none⟩), .int .i64 a, .int .i64 r, .int .i64 now] W fun e w' => e = .returned (.int .i64 E) ∧ BwA d now s2 s nb (OB) F w0  w' ∧ s2.Ok := fun W h => by
  obtain ⟨Zn, hx, ht⟩ := h.pv hs hN
  rw [hE, hs2]
  refine (hx.vUnvote wa wr now).mono ?_
  rintro e w' ⟨he, hw⟩
  exact ⟨he, ht ⟨s.A, s.M, unvoteS s.S a r now⟩ _ hw, by obtain ⟨Z', q1, -⟩ := hw; exact ⟨q1.inv, q1.key⟩⟩
 have c2 : ∀ W, BwA d now s2 s nb (OB) F w0  W → Calls Tryz.prog 34 #[.pointer (some ⟨d.y, 0, none⟩), .int .i64 a, .int .i64 r, .int .i64 now] W fun e w' => e = .returned (.int .i64 E) ∧ BwA d now s2 s2 nb (OB) F w0  w' := fun W h2 => by
  obtain ⟨B, hx, ht⟩ := h2.ry
  rw [hE]
  refine (ryS_Unvote hx hs.inv hf.1 a r now).mono ?_
  rintro e w' ⟨he, hw⟩
  refine ⟨he, ?_⟩
  have := ht _ _ hw
  rw [← hs2] at this
  exact this
 rw [hOB] at s0 c1 c2 hfin hw0
 have C1 := Lib.hid c1
 have C2 := Lib.hid c2
 have S0 := Lib.hid s0
 have S0d := Lib.hid s0.drew
 have HF := Lib.hid hfin
 have HNB := Lib.hid hnb
 have HW := Lib.hid hw0
 have q0 : w0.cell? ⟨nb, 0, none⟩ = some (.int .i64 4) := by rw [World.cell?, BwA.box s0]; rfl
 clear c1 c2 hE h0 s0 hs hf hN hnb hw0 hOB hs2 hfin OB wa wr wt
 go_enter Tryz.func8, Tryz.ntmps8
 go_upto_region 1 with fail
 rw [← HW.out, ← HNB.out]
 go_upto_region 9 with fail
 have mixed : Tryz.prog.follows .mixedOrders = true := by kernel_rfl
 first
  | go_region_held3 (fun w' => w'.cell? ⟨d.p, 1, none⟩ = some (.pointer (some ⟨d.vb, 0, none⟩)) ∧ w'.cell? ⟨d.p, 3, none⟩ = some (.pointer (some ⟨d.y, 0, none⟩)) ∧ w'.cell? ⟨d.p, 4, none⟩ = some (.int .i64 now) ∧ w'.cell? ⟨nb, 1, none⟩ = some (.int .i64 a) ∧ w'.cell? ⟨nb, 2, none⟩ = some (.int .i64 r)) (first | exact ⟨(BwA.cells S0.out).2.1, (BwA.cells S0.out).2.2.2.1, (BwA.cells S0.out).2.2.2.2, by rw [World.cell?, BwA.box S0.out]; rfl, by rw [World.cell?, BwA.box S0.out]; rfl⟩ | exact ⟨(BwA.cells S0d.out).2.1, (BwA.cells S0d.out).2.2.2.1, (BwA.cells S0d.out).2.2.2.2, by rw [World.cell?, BwA.box S0d.out]; rfl, by rw [World.cell?, BwA.box S0d.out]; rfl⟩ | exact ⟨(BwA.cells S1.out).2.1, (BwA.cells S1.out).2.2.2.1, (BwA.cells S1.out).2.2.2.2, by rw [World.cell?, BwA.box S1.out]; rfl, by rw [World.cell?, BwA.box S1.out]; rfl⟩ | exact ⟨(BwA.cells S2.out).2.1, (BwA.cells S2.out).2.2.2.1, (BwA.cells S2.out).2.2.2.2, by rw [World.cell?, BwA.box S2.out]; rfl, by rw [World.cell?, BwA.box S2.out]; rfl⟩) (first
   | (go_at_call 23; refine (C1.out _ S0d.out).mono ?_; rintro e w1 ⟨rfl, hs, hok⟩; have S1 := Lib.hid hs; have OK1 := Lib.hid hok; clear hs hok)
   | (go_at_call 34; refine (C2.out _ S1.out).mono ?_; rintro e w2 ⟨rfl, hs⟩; have S2 := Lib.hid hs; clear hs)
   | fail)
  | fail
 go_wp2_with fail
 exact bodyPost_ret (v := .bool true) (by simp [results, Tryz.results8, go_sem]) rfl ⟨rfl, HF.out _ S2.out, OK1.out⟩
theorem law11_act_Delegate (a r t st who lv n : Int) (x : Bal) (wa : (Lit.int .i64 a).wf = true) (wr : (Lit.int .i64 r).wf = true) (wt : (Lit.int .i64 t).wf = true) (h0 : (bwM d now s s).is F w) (hs : s.Ok) (hN : d.N ≤ d.p) : Calls Tryz.prog 8 #[.pointer (some ⟨d.p, 0, none⟩), .agg #[.int .i64 5, .int .i64 a, .int .i64 r, .int .i64 t, .int .i64 st, .int .i64 who, .int .i64 lv, .int .i64 n, .int .i64 x.k, .bool x.aye, .int .i64 x.l, .int .i64 x.a, .int .i64 x.n, .int .i64 x.s]] w fun e w' => e = .returned (.bool true) ∧ (bwM d now ⟨s.A, delM s.S s.A s.M a t who lv n, delS s.S s.A a t who lv n⟩ ⟨s.A, delM s.S s.A s.M a t who lv n, delS s.S s.A a t who lv n⟩).to F w w' ∧ (⟨s.A, delM s.S s.A s.M a t who lv n, delS s.S s.A a t who lv n⟩ : Sx).Ok := by
 obtain ⟨nb, hnb⟩ : ∃ nb, nb = w.heap.size := ⟨_, rfl⟩
 obtain ⟨OB, hOB⟩ : ∃ OB : Obj, OB = .cells #[.int .i64 5, .int .i64 a, .int .i64 r, .int .i64 t, .int .i64 st, .int .i64 who, .int .i64 lv, .int .i64 n, .int .i64 x.k, .bool x.aye, .int .i64 x.l, .int .i64 x.a, .int .i64 x.n, .int .i64 x.s] 30 := ⟨_, rfl⟩
 have s0 := BwA.start h0 OB
 have hf := bw_facts h0 hs hN
 obtain ⟨w0, hw0⟩ : ∃ w0, w0 = w.alloc OB := ⟨_, rfl⟩
 obtain ⟨s2, hs2⟩ : ∃ s2 : Sx, s2 = ⟨s.A, delM s.S s.A s.M a t who lv n, delS s.S s.A a t who lv n⟩ := ⟨_, rfl⟩
 obtain ⟨E, hE⟩ : ∃ E, E = delE s.S s.A a t who lv n := ⟨_, rfl⟩
 have hfin : ∀ W, BwA d now s2 s2 nb (OB) F w0  W → (bwM d now s2 s2).to F w W := fun W h => by
  rw [hw0, hnb] at h
  exact Mem.to_boxed h
 rw [← hw0, ← hnb] at s0
 rw [← hs2]
 have c1 : ∀ W, BwA d now s s nb (OB) F w0  W → Calls Tryz.prog 24 #[.pointer (some ⟨d.vb, 0, none⟩), .pointer (some ⟨d.g, 0, none⟩), .int .i64 a, .int .i64 t, .int .i64 who, .int .i64 lv, .int .i64 n] W fun e w' => e = .returned (.int .i64 E) ∧ BwA d now s2 s nb (OB) F w0  w' ∧ s2.Ok := fun W h => by
  obtain ⟨Zn, hx, ht⟩ := h.pv hs hN
  rw [hE, hs2]
  refine (hx.vDelegate wa wt lv n).mono ?_
  rintro e w' ⟨he, hw⟩
  exact ⟨he, ht ⟨s.A, delM s.S s.A s.M a t who lv n, delS s.S s.A a t who lv n⟩ _ hw, by obtain ⟨Z', q1, -⟩ := hw; exact ⟨q1.inv, q1.key⟩⟩
 have c2 : ∀ W, BwA d now s2 s nb (OB) F w0  W → Calls Tryz.prog 35 #[.pointer (some ⟨d.y, 0, none⟩), .pointer (some ⟨d.x, 0, none⟩), .int .i64 a, .int .i64 t, .int .i64 who, .int .i64 lv, .int .i64 n] W fun e w' => e = .returned (.int .i64 E) ∧ BwA d now s2 s2 nb (OB) F w0  w' := fun W h2 => by
  obtain ⟨B, hx, ht⟩ := h2.rr
  rw [hE]
  refine (rr_Delegate hx hs.inv hf.1 hf.2 a t who lv n).mono ?_
  rintro e w' ⟨he, hw⟩
  refine ⟨he, ?_⟩
  have := ht ⟨s.A, delM s.S s.A s.M a t who lv n, delS s.S s.A a t who lv n⟩ _ hw
  rw [← hs2] at this
  exact this
 rw [hOB] at s0 c1 c2 hfin hw0
 have C1 := Lib.hid c1
 have C2 := Lib.hid c2
 have S0 := Lib.hid s0
 have S0d := Lib.hid s0.drew
 have HF := Lib.hid hfin
 have HNB := Lib.hid hnb
 have HW := Lib.hid hw0
 have q0 : w0.cell? ⟨nb, 0, none⟩ = some (.int .i64 5) := by rw [World.cell?, BwA.box s0]; rfl
 clear c1 c2 hE h0 s0 hs hf hN hnb hw0 hOB hs2 hfin OB wa wr wt
 go_enter Tryz.func8, Tryz.ntmps8
 go_upto_region 1 with fail
 rw [← HW.out, ← HNB.out]
 go_upto_region 11 with fail
 have mixed : Tryz.prog.follows .mixedOrders = true := by kernel_rfl
 first
  | go_region_held3 (fun w' => w'.cell? ⟨d.p, 0, none⟩ = some (.pointer (some ⟨d.g, 0, none⟩)) ∧ w'.cell? ⟨d.p, 1, none⟩ = some (.pointer (some ⟨d.vb, 0, none⟩)) ∧ w'.cell? ⟨d.p, 2, none⟩ = some (.pointer (some ⟨d.x, 0, none⟩)) ∧ w'.cell? ⟨d.p, 3, none⟩ = some (.pointer (some ⟨d.y, 0, none⟩)) ∧ w'.cell? ⟨nb, 1, none⟩ = some (.int .i64 a) ∧ w'.cell? ⟨nb, 3, none⟩ = some (.int .i64 t) ∧ w'.cell? ⟨nb, 5, none⟩ = some (.int .i64 who) ∧ w'.cell? ⟨nb, 6, none⟩ = some (.int .i64 lv) ∧ w'.cell? ⟨nb, 7, none⟩ = some (.int .i64 n)) (first | exact ⟨(BwA.cells S0.out).1, (BwA.cells S0.out).2.1, (BwA.cells S0.out).2.2.1, (BwA.cells S0.out).2.2.2.1, by rw [World.cell?, BwA.box S0.out]; rfl, by rw [World.cell?, BwA.box S0.out]; rfl, by rw [World.cell?, BwA.box S0.out]; rfl, by rw [World.cell?, BwA.box S0.out]; rfl, by rw [World.cell?, BwA.box S0.out]; rfl⟩ | exact ⟨(BwA.cells S0d.out).1, (BwA.cells S0d.out).2.1, (BwA.cells S0d.out).2.2.1, (BwA.cells S0d.out).2.2.2.1, by rw [World.cell?, BwA.box S0d.out]; rfl, by rw [World.cell?, BwA.box S0d.out]; rfl, by rw [World.cell?, BwA.box S0d.out]; rfl, by rw [World.cell?, BwA.box S0d.out]; rfl, by rw [World.cell?, BwA.box S0d.out]; rfl⟩ | exact ⟨(BwA.cells S1.out).1, (BwA.cells S1.out).2.1, (BwA.cells S1.out).2.2.1, (BwA.cells S1.out).2.2.2.1, by rw [World.cell?, BwA.box S1.out]; rfl, by rw [World.cell?, BwA.box S1.out]; rfl, by rw [World.cell?, BwA.box S1.out]; rfl, by rw [World.cell?, BwA.box S1.out]; rfl, by rw [World.cell?, BwA.box S1.out]; rfl⟩ | exact ⟨(BwA.cells S2.out).1, (BwA.cells S2.out).2.1, (BwA.cells S2.out).2.2.1, (BwA.cells S2.out).2.2.2.1, by rw [World.cell?, BwA.box S2.out]; rfl, by rw [World.cell?, BwA.box S2.out]; rfl, by rw [World.cell?, BwA.box S2.out]; rfl, by rw [World.cell?, BwA.box S2.out]; rfl, by rw [World.cell?, BwA.box S2.out]; rfl⟩) (first
   | (go_at_call 24; refine (C1.out _ S0d.out).mono ?_; rintro e w1 ⟨rfl, hs, hok⟩; have S1 := Lib.hid hs; have OK1 := Lib.hid hok; clear hs hok)
   | (go_at_call 35; refine (C2.out _ S1.out).mono ?_; rintro e w2 ⟨rfl, hs⟩; have S2 := Lib.hid hs; clear hs)
   | fail)
  | fail
 go_wp2_with fail
 exact bodyPost_ret (v := .bool true) (by simp [results, Tryz.results8, go_sem]) rfl ⟨rfl, HF.out _ S2.out, OK1.out⟩
theorem law11_act_Undelegate (a r t st who lv n : Int) (x : Bal) (wa : (Lit.int .i64 a).wf = true) (wr : (Lit.int .i64 r).wf = true) (wt : (Lit.int .i64 t).wf = true) (h0 : (bwM d now s s).is F w) (hs : s.Ok) (hN : d.N ≤ d.p) : Calls Tryz.prog 8 #[.pointer (some ⟨d.p, 0, none⟩), .agg #[.int .i64 6, .int .i64 a, .int .i64 r, .int .i64 t, .int .i64 st, .int .i64 who, .int .i64 lv, .int .i64 n, .int .i64 x.k, .bool x.aye, .int .i64 x.l, .int .i64 x.a, .int .i64 x.n, .int .i64 x.s]] w fun e w' => e = .returned (.bool true) ∧ (bwM d now ⟨s.A, s.M, undS s.S a t now⟩ ⟨s.A, s.M, undS s.S a t now⟩).to F w w' ∧ (⟨s.A, s.M, undS s.S a t now⟩ : Sx).Ok := by
 obtain ⟨nb, hnb⟩ : ∃ nb, nb = w.heap.size := ⟨_, rfl⟩
 obtain ⟨OB, hOB⟩ : ∃ OB : Obj, OB = .cells #[.int .i64 6, .int .i64 a, .int .i64 r, .int .i64 t, .int .i64 st, .int .i64 who, .int .i64 lv, .int .i64 n, .int .i64 x.k, .bool x.aye, .int .i64 x.l, .int .i64 x.a, .int .i64 x.n, .int .i64 x.s] 30 := ⟨_, rfl⟩
 have s0 := BwA.start h0 OB
 have hf := bw_facts h0 hs hN
 obtain ⟨w0, hw0⟩ : ∃ w0, w0 = w.alloc OB := ⟨_, rfl⟩
 obtain ⟨s2, hs2⟩ : ∃ s2 : Sx, s2 = ⟨s.A, s.M, undS s.S a t now⟩ := ⟨_, rfl⟩
 obtain ⟨E, hE⟩ : ∃ E, E = undE s.S a t := ⟨_, rfl⟩
 have hfin : ∀ W, BwA d now s2 s2 nb (OB) F w0  W → (bwM d now s2 s2).to F w W := fun W h => by
  rw [hw0, hnb] at h
  exact Mem.to_boxed h
 rw [← hw0, ← hnb] at s0
 rw [← hs2]
 have c1 : ∀ W, BwA d now s s nb (OB) F w0  W → Calls Tryz.prog 25 #[.pointer (some ⟨d.vb, 0, none⟩), .int .i64 a, .int .i64 t, .int .i64 now] W fun e w' => e = .returned (.int .i64 E) ∧ BwA d now s2 s nb (OB) F w0  w' ∧ s2.Ok := fun W h => by
  obtain ⟨Zn, hx, ht⟩ := h.pv hs hN
  rw [hE, hs2]
  refine (hx.vUndelegate wa wt now).mono ?_
  rintro e w' ⟨he, hw⟩
  exact ⟨he, ht ⟨s.A, s.M, undS s.S a t now⟩ _ hw, by obtain ⟨Z', q1, -⟩ := hw; exact ⟨q1.inv, q1.key⟩⟩
 have c2 : ∀ W, BwA d now s2 s nb (OB) F w0  W → Calls Tryz.prog 36 #[.pointer (some ⟨d.y, 0, none⟩), .int .i64 a, .int .i64 t, .int .i64 now] W fun e w' => e = .returned (.int .i64 E) ∧ BwA d now s2 s2 nb (OB) F w0  w' := fun W h2 => by
  obtain ⟨B, hx, ht⟩ := h2.ry
  rw [hE]
  refine (ryS_Undelegate hx hs.inv hf.1 a t now).mono ?_
  rintro e w' ⟨he, hw⟩
  refine ⟨he, ?_⟩
  have := ht _ _ hw
  rw [← hs2] at this
  exact this
 rw [hOB] at s0 c1 c2 hfin hw0
 have C1 := Lib.hid c1
 have C2 := Lib.hid c2
 have S0 := Lib.hid s0
 have S0d := Lib.hid s0.drew
 have HF := Lib.hid hfin
 have HNB := Lib.hid hnb
 have HW := Lib.hid hw0
 have q0 : w0.cell? ⟨nb, 0, none⟩ = some (.int .i64 6) := by rw [World.cell?, BwA.box s0]; rfl
 clear c1 c2 hE h0 s0 hs hf hN hnb hw0 hOB hs2 hfin OB wa wr wt
 go_enter Tryz.func8, Tryz.ntmps8
 go_upto_region 1 with fail
 rw [← HW.out, ← HNB.out]
 go_upto_region 13 with fail
 have mixed : Tryz.prog.follows .mixedOrders = true := by kernel_rfl
 first
  | go_region_held3 (fun w' => w'.cell? ⟨d.p, 1, none⟩ = some (.pointer (some ⟨d.vb, 0, none⟩)) ∧ w'.cell? ⟨d.p, 3, none⟩ = some (.pointer (some ⟨d.y, 0, none⟩)) ∧ w'.cell? ⟨d.p, 4, none⟩ = some (.int .i64 now) ∧ w'.cell? ⟨nb, 1, none⟩ = some (.int .i64 a) ∧ w'.cell? ⟨nb, 3, none⟩ = some (.int .i64 t)) (first | exact ⟨(BwA.cells S0.out).2.1, (BwA.cells S0.out).2.2.2.1, (BwA.cells S0.out).2.2.2.2, by rw [World.cell?, BwA.box S0.out]; rfl, by rw [World.cell?, BwA.box S0.out]; rfl⟩ | exact ⟨(BwA.cells S0d.out).2.1, (BwA.cells S0d.out).2.2.2.1, (BwA.cells S0d.out).2.2.2.2, by rw [World.cell?, BwA.box S0d.out]; rfl, by rw [World.cell?, BwA.box S0d.out]; rfl⟩ | exact ⟨(BwA.cells S1.out).2.1, (BwA.cells S1.out).2.2.2.1, (BwA.cells S1.out).2.2.2.2, by rw [World.cell?, BwA.box S1.out]; rfl, by rw [World.cell?, BwA.box S1.out]; rfl⟩ | exact ⟨(BwA.cells S2.out).2.1, (BwA.cells S2.out).2.2.2.1, (BwA.cells S2.out).2.2.2.2, by rw [World.cell?, BwA.box S2.out]; rfl, by rw [World.cell?, BwA.box S2.out]; rfl⟩) (first
   | (go_at_call 25; refine (C1.out _ S0d.out).mono ?_; rintro e w1 ⟨rfl, hs, hok⟩; have S1 := Lib.hid hs; have OK1 := Lib.hid hok; clear hs hok)
   | (go_at_call 36; refine (C2.out _ S1.out).mono ?_; rintro e w2 ⟨rfl, hs⟩; have S2 := Lib.hid hs; clear hs)
   | fail)
  | fail
 go_wp2_with fail
 exact bodyPost_ret (v := .bool true) (by simp [results, Tryz.results8, go_sem]) rfl ⟨rfl, HF.out _ S2.out, OK1.out⟩
theorem law11_act_Unlock (a r t st who lv n : Int) (x : Bal) (wa : (Lit.int .i64 a).wf = true) (wr : (Lit.int .i64 r).wf = true) (wt : (Lit.int .i64 t).wf = true) (h0 : (bwM d now s s).is F w) (hs : s.Ok) (hN : d.N ≤ d.p) : Calls Tryz.prog 8 #[.pointer (some ⟨d.p, 0, none⟩), .agg #[.int .i64 7, .int .i64 a, .int .i64 r, .int .i64 t, .int .i64 st, .int .i64 who, .int .i64 lv, .int .i64 n, .int .i64 x.k, .bool x.aye, .int .i64 x.l, .int .i64 x.a, .int .i64 x.n, .int .i64 x.s]] w fun e w' => e = .returned (.bool true) ∧ (bwM d now ⟨s.A, unlM s.S s.M a t now, unlS s.S a t now⟩ ⟨s.A, unlM s.S s.M a t now, unlS s.S a t now⟩).to F w w' ∧ (⟨s.A, unlM s.S s.M a t now, unlS s.S a t now⟩ : Sx).Ok := by
 obtain ⟨nb, hnb⟩ : ∃ nb, nb = w.heap.size := ⟨_, rfl⟩
 obtain ⟨OB, hOB⟩ : ∃ OB : Obj, OB = .cells #[.int .i64 7, .int .i64 a, .int .i64 r, .int .i64 t, .int .i64 st, .int .i64 who, .int .i64 lv, .int .i64 n, .int .i64 x.k, .bool x.aye, .int .i64 x.l, .int .i64 x.a, .int .i64 x.n, .int .i64 x.s] 30 := ⟨_, rfl⟩
 have s0 := BwA.start h0 OB
 have hf := bw_facts h0 hs hN
 obtain ⟨w0, hw0⟩ : ∃ w0, w0 = w.alloc OB := ⟨_, rfl⟩
 obtain ⟨s2, hs2⟩ : ∃ s2 : Sx, s2 = ⟨s.A, unlM s.S s.M a t now, unlS s.S a t now⟩ := ⟨_, rfl⟩
 obtain ⟨E, hE⟩ : ∃ E, E = unlE a t := ⟨_, rfl⟩
 have hfin : ∀ W, BwA d now s2 s2 nb (OB) F w0  W → (bwM d now s2 s2).to F w W := fun W h => by
  rw [hw0, hnb] at h
  exact Mem.to_boxed h
 rw [← hw0, ← hnb] at s0
 rw [← hs2]
 have c1 : ∀ W, BwA d now s s nb (OB) F w0  W → Calls Tryz.prog 26 #[.pointer (some ⟨d.vb, 0, none⟩), .pointer (some ⟨d.g, 0, none⟩), .int .i64 a, .int .i64 t, .int .i64 now] W fun e w' => e = .returned (.int .i64 E) ∧ BwA d now s2 s nb (OB) F w0  w' ∧ s2.Ok := fun W h => by
  obtain ⟨Zn, hx, ht⟩ := h.pv hs hN
  rw [hE, hs2]
  refine (hx.vUnlock wa wt now).mono ?_
  rintro e w' ⟨he, hw⟩
  exact ⟨he, ht ⟨s.A, unlM s.S s.M a t now, unlS s.S a t now⟩ _ hw, by obtain ⟨Z', q1, -⟩ := hw; exact ⟨q1.inv, q1.key⟩⟩
 have c2 : ∀ W, BwA d now s2 s nb (OB) F w0  W → Calls Tryz.prog 37 #[.pointer (some ⟨d.y, 0, none⟩), .pointer (some ⟨d.x, 0, none⟩), .int .i64 a, .int .i64 t, .int .i64 now] W fun e w' => e = .returned (.int .i64 E) ∧ BwA d now s2 s2 nb (OB) F w0  w' := fun W h2 => by
  obtain ⟨B, hx, ht⟩ := h2.rr
  rw [hE]
  refine (rr_Unlock hx hs.inv hf.1 hf.2 a t now).mono ?_
  rintro e w' ⟨he, hw⟩
  refine ⟨he, ?_⟩
  have := ht ⟨s.A, unlM s.S s.M a t now, unlS s.S a t now⟩ _ hw
  rw [← hs2] at this
  exact this
 rw [hOB] at s0 c1 c2 hfin hw0
 have C1 := Lib.hid c1
 have C2 := Lib.hid c2
 have S0 := Lib.hid s0
 have S0d := Lib.hid s0.drew
 have HF := Lib.hid hfin
 have HNB := Lib.hid hnb
 have HW := Lib.hid hw0
 have q0 : w0.cell? ⟨nb, 0, none⟩ = some (.int .i64 7) := by rw [World.cell?, BwA.box s0]; rfl
 clear c1 c2 hE h0 s0 hs hf hN hnb hw0 hOB hs2 hfin OB wa wr wt
 go_enter Tryz.func8, Tryz.ntmps8
 go_upto_region 1 with fail
 rw [← HW.out, ← HNB.out]
 go_upto_region 15 with fail
 have mixed : Tryz.prog.follows .mixedOrders = true := by kernel_rfl
 first
  | go_region_held3 (fun w' => w'.cell? ⟨d.p, 0, none⟩ = some (.pointer (some ⟨d.g, 0, none⟩)) ∧ w'.cell? ⟨d.p, 1, none⟩ = some (.pointer (some ⟨d.vb, 0, none⟩)) ∧ w'.cell? ⟨d.p, 2, none⟩ = some (.pointer (some ⟨d.x, 0, none⟩)) ∧ w'.cell? ⟨d.p, 3, none⟩ = some (.pointer (some ⟨d.y, 0, none⟩)) ∧ w'.cell? ⟨d.p, 4, none⟩ = some (.int .i64 now) ∧ w'.cell? ⟨nb, 1, none⟩ = some (.int .i64 a) ∧ w'.cell? ⟨nb, 3, none⟩ = some (.int .i64 t)) (first | exact ⟨(BwA.cells S0.out).1, (BwA.cells S0.out).2.1, (BwA.cells S0.out).2.2.1, (BwA.cells S0.out).2.2.2.1, (BwA.cells S0.out).2.2.2.2, by rw [World.cell?, BwA.box S0.out]; rfl, by rw [World.cell?, BwA.box S0.out]; rfl⟩ | exact ⟨(BwA.cells S0d.out).1, (BwA.cells S0d.out).2.1, (BwA.cells S0d.out).2.2.1, (BwA.cells S0d.out).2.2.2.1, (BwA.cells S0d.out).2.2.2.2, by rw [World.cell?, BwA.box S0d.out]; rfl, by rw [World.cell?, BwA.box S0d.out]; rfl⟩ | exact ⟨(BwA.cells S1.out).1, (BwA.cells S1.out).2.1, (BwA.cells S1.out).2.2.1, (BwA.cells S1.out).2.2.2.1, (BwA.cells S1.out).2.2.2.2, by rw [World.cell?, BwA.box S1.out]; rfl, by rw [World.cell?, BwA.box S1.out]; rfl⟩ | exact ⟨(BwA.cells S2.out).1, (BwA.cells S2.out).2.1, (BwA.cells S2.out).2.2.1, (BwA.cells S2.out).2.2.2.1, (BwA.cells S2.out).2.2.2.2, by rw [World.cell?, BwA.box S2.out]; rfl, by rw [World.cell?, BwA.box S2.out]; rfl⟩) (first
   | (go_at_call 26; refine (C1.out _ S0d.out).mono ?_; rintro e w1 ⟨rfl, hs, hok⟩; have S1 := Lib.hid hs; have OK1 := Lib.hid hok; clear hs hok)
   | (go_at_call 37; refine (C2.out _ S1.out).mono ?_; rintro e w2 ⟨rfl, hs⟩; have S2 := Lib.hid hs; clear hs)
   | fail)
  | fail
 go_wp2_with fail
 exact bodyPost_ret (v := .bool true) (by simp [results, Tryz.results8, go_sem]) rfl ⟨rfl, HF.out _ S2.out, OK1.out⟩
theorem law11_act_Transfer (kd a r t st who lv n : Int) (x : Bal) (n1 : kd ≠ 1) (n2 : kd ≠ 2) (n3 : kd ≠ 3) (n4 : kd ≠ 4) (n5 : kd ≠ 5) (n6 : kd ≠ 6) (n7 : kd ≠ 7) (n8 : kd ≠ 8) (hA : AccOk s.A) (wa : (Lit.int .i64 a).wf = true) (wr : (Lit.int .i64 r).wf = true) (wt : (Lit.int .i64 t).wf = true) (h0 : (bwM d now s s).is F w) (hs : s.Ok) (hN : d.N ≤ d.p) : Calls Tryz.prog 8 #[.pointer (some ⟨d.p, 0, none⟩), .agg #[.int .i64 kd, .int .i64 a, .int .i64 r, .int .i64 t, .int .i64 st, .int .i64 who, .int .i64 lv, .int .i64 n, .int .i64 x.k, .bool x.aye, .int .i64 x.l, .int .i64 x.a, .int .i64 x.n, .int .i64 x.s]] w fun e w' => e = .returned (.bool true) ∧ (bwM d now ⟨transA s.A s.M a who n, s.M, s.S⟩ ⟨transA s.A s.M a who n, s.M, s.S⟩).to F w w' ∧ (⟨transA s.A s.M a who n, s.M, s.S⟩ : Sx).Ok := by
 obtain ⟨nb, hnb⟩ : ∃ nb, nb = w.heap.size := ⟨_, rfl⟩
 obtain ⟨OB, hOB⟩ : ∃ OB : Obj, OB = .cells #[.int .i64 kd, .int .i64 a, .int .i64 r, .int .i64 t, .int .i64 st, .int .i64 who, .int .i64 lv, .int .i64 n, .int .i64 x.k, .bool x.aye, .int .i64 x.l, .int .i64 x.a, .int .i64 x.n, .int .i64 x.s] 30 := ⟨_, rfl⟩
 have s0 := BwA.start h0 OB
 have hf := bw_facts h0 hs hN
 obtain ⟨w0, hw0⟩ : ∃ w0, w0 = w.alloc OB := ⟨_, rfl⟩
 obtain ⟨s2, hs2⟩ : ∃ s2 : Sx, s2 = ⟨transA s.A s.M a who n, s.M, s.S⟩ := ⟨_, rfl⟩
 obtain ⟨E, hE⟩ : ∃ E, E = transE s.A s.M a who n := ⟨_, rfl⟩
 have hfin : ∀ W, BwA d now s2 s2 nb (OB) F w0  W → (bwM d now s2 s2).to F w W := fun W h => by
  rw [hw0, hnb] at h
  exact Mem.to_boxed h
 rw [← hw0, ← hnb] at s0
 rw [← hs2]
 have c1 : ∀ W, BwA d now s s nb (OB) F w0  W → Calls Tryz.prog 38 #[.pointer (some ⟨d.g, 0, none⟩), .int .i64 a, .int .i64 who, .int .i64 n] W fun e w' => e = .returned (.int .i64 E) ∧ BwA d now s2 s nb (OB) F w0  w' ∧ s2.Ok := fun W h => by
  obtain ⟨Zn, hx, ht⟩ := h.pv hs hN
  rw [hE, hs2]
  refine (hx.vTransfer wa who n).mono ?_
  rintro e w' ⟨he, hw⟩
  exact ⟨he, ht ⟨transA s.A s.M a who n, s.M, s.S⟩ _ hw, by obtain ⟨Z', q1, -⟩ := hw; exact ⟨q1.inv, q1.key⟩⟩
 have c2 : ∀ W, BwA d now s2 s nb (OB) F w0  W → Calls Tryz.prog 39 #[.pointer (some ⟨d.x, 0, none⟩), .int .i64 a, .int .i64 who, .int .i64 n] W fun e w' => e = .returned (.int .i64 E) ∧ BwA d now s2 s2 nb (OB) F w0  w' := fun W h2 => by
  obtain ⟨B, hx, ht⟩ := h2.rl
  rw [hE]
  refine (ref6_Transfer hx hA a who n (Nat.le_trans (row_length _ a) (Nat.le_trans hf.2 (by decide)))).mono ?_
  rintro e w' ⟨he, hw⟩
  refine ⟨he, ?_⟩
  have := ht _ _ _ hw.rt
  rw [← hs2] at this
  exact this
 rw [hOB] at s0 c1 c2 hfin hw0
 have C1 := Lib.hid c1
 have C2 := Lib.hid c2
 have S0 := Lib.hid s0
 have S0d := Lib.hid s0.drew
 have HF := Lib.hid hfin
 have HNB := Lib.hid hnb
 have HW := Lib.hid hw0
 have q0 : w0.cell? ⟨nb, 0, none⟩ = some (.int .i64 kd) := by rw [World.cell?, BwA.box s0]; rfl
 clear c1 c2 hE h0 s0 hs hf hN hnb hw0 hOB hs2 hfin OB wa wr wt hA
 have e1 : (kd == 1) = false := by simp [n1]
 have e2 : (kd == 2) = false := by simp [n2]
 have e3 : (kd == 3) = false := by simp [n3]
 have e4 : (kd == 4) = false := by simp [n4]
 have e5 : (kd == 5) = false := by simp [n5]
 have e6 : (kd == 6) = false := by simp [n6]
 have e7 : (kd == 7) = false := by simp [n7]
 have e8 : (kd == 8) = false := by simp [n8]
 clear n1 n2 n3 n4 n5 n6 n7 n8
 go_enter Tryz.func8, Tryz.ntmps8
 go_upto_region 1 with fail
 rw [← HW.out, ← HNB.out]
 go_upto_region 19 with fail
 have mixed : Tryz.prog.follows .mixedOrders = true := by kernel_rfl
 first
  | go_region_held3 (fun w' => w'.cell? ⟨d.p, 0, none⟩ = some (.pointer (some ⟨d.g, 0, none⟩)) ∧ w'.cell? ⟨d.p, 2, none⟩ = some (.pointer (some ⟨d.x, 0, none⟩)) ∧ w'.cell? ⟨nb, 1, none⟩ = some (.int .i64 a) ∧ w'.cell? ⟨nb, 5, none⟩ = some (.int .i64 who) ∧ w'.cell? ⟨nb, 7, none⟩ = some (.int .i64 n)) (first | exact ⟨(BwA.cells S0.out).1, (BwA.cells S0.out).2.2.1, by rw [World.cell?, BwA.box S0.out]; rfl, by rw [World.cell?, BwA.box S0.out]; rfl, by rw [World.cell?, BwA.box S0.out]; rfl⟩ | exact ⟨(BwA.cells S0d.out).1, (BwA.cells S0d.out).2.2.1, by rw [World.cell?, BwA.box S0d.out]; rfl, by rw [World.cell?, BwA.box S0d.out]; rfl, by rw [World.cell?, BwA.box S0d.out]; rfl⟩ | exact ⟨(BwA.cells S1.out).1, (BwA.cells S1.out).2.2.1, by rw [World.cell?, BwA.box S1.out]; rfl, by rw [World.cell?, BwA.box S1.out]; rfl, by rw [World.cell?, BwA.box S1.out]; rfl⟩ | exact ⟨(BwA.cells S2.out).1, (BwA.cells S2.out).2.2.1, by rw [World.cell?, BwA.box S2.out]; rfl, by rw [World.cell?, BwA.box S2.out]; rfl, by rw [World.cell?, BwA.box S2.out]; rfl⟩) (first
   | (go_at_call 38; refine (C1.out _ S0d.out).mono ?_; rintro e w1 ⟨rfl, hs, hok⟩; have S1 := Lib.hid hs; have OK1 := Lib.hid hok; clear hs hok)
   | (go_at_call 39; refine (C2.out _ S1.out).mono ?_; rintro e w2 ⟨rfl, hs⟩; have S2 := Lib.hid hs; clear hs)
   | fail)
  | fail
 go_wp2_with fail
 exact bodyPost_ret (v := .bool true) (by simp [results, Tryz.results8, go_sem]) rfl ⟨rfl, HF.out _ S2.out, OK1.out⟩
end
end Go.Proofs.YtbpemdihoabbcaaGreat
