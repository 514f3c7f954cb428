/-
  A table that the call owns; the law's known.
-/
import Derived.Test.YtlfngdfbimcjhaaGrW
import Derived.Test.YtlfngdfbimcjhaaTold
namespace Go.Proofs.Ytlfngdfbimcjhaa
open Go.RowKit Go.Maps Go.Shelf
set_option linter.unusedVariables false
set_option linter.unusedSimpArgs false

/-- A table of the call's own. -/
def GrOwn {β : Type} (c : Cod β) (T : TypeId) (N g : Nat) (M : Cls β) (w : World) : Prop := ∃ F, GrAt c T g M F w ∧ ∀ k, F k → N ≤ k
section
variable {β : Type} {c : Cod β} {T : TypeId} {N g : Nat} {M M' : Cls β} {w w' : World} {F : FP}
theorem GrOwn.to (h : GrTo c T g M' F w w') (hF : ∀ k, F k → N ≤ k) (hN : N ≤ w.heap.size) : GrOwn c T N g M' w' ∧ Below N w w' := by
  obtain ⟨F', h1, h2, h3⟩ := h
  exact ⟨⟨F', h1, fun k hk => (h2 k hk).elim (hF k) (fun h => by omega)⟩, h3.below hN hF (fun k h => h.elim)⟩
theorem GrOwn.below (h : GrOwn c T N g M w) (hb : Below w.heap.size w w') : GrOwn c T N g M w' := by
  obtain ⟨F, h1, h2⟩ := h
  exact ⟨F, h1.keep (Grow.of_below hb) (fun k hk => hb.block k (h1.2.2.1 k hk)), h2⟩
theorem GrOwn.srt (h : GrOwn c T N g M w) : SrtC M := by obtain ⟨F, h1, _⟩ := h; exact h1.1
theorem Below.of_all {N : Nat} {w w' : World} (h : Below w.heap.size w w') (hN : N ≤ w.heap.size) : Below N w w' := h.mono hN
end
theorem grid_New_own_I (w : World) : Calls Try.prog 10 #[] w fun e w' => ∃ g, e = .returned (.pointer (some ⟨g, 0, none⟩)) ∧ GrOwn codI 67 w.heap.size g [] w' ∧ Below w.heap.size w w' := by
  refine (grid_New_I w).mono ?_
  rintro e w' ⟨rfl, rfl⟩
  exact ⟨_, rfl, ⟨_, GrAt.new_I w, fun k hk => by omega⟩, (Below.refl _ w).alloc (Nat.le_refl _) _⟩
theorem grid_Set_own_I {N g : Nat} {M : Cls Int} {w : World} (h : GrOwn codI 67 N g M w) (hN : N ≤ w.heap.size) (hlen : M.length ≤ 1000000) {a b v : Int} (ha : (Lit.int .i64 a).wf = true) (hb : (Lit.int .i64 b).wf = true) :
    Calls Try.prog 22 #[.pointer (some ⟨g, 0, none⟩), .int .i64 a, .int .i64 b, .int .i64 v] w fun e w' => e = .returned (.tuple #[]) ∧ GrOwn codI 67 N g (cput M a b v) w' ∧ Below N w w' := by
  obtain ⟨F, h1, h2⟩ := h
  refine (grid_Set_I h1 hlen ha hb v).mono ?_
  rintro e w' ⟨rfl, h3⟩
  exact ⟨rfl, GrOwn.to h3 h2 hN⟩
theorem grid_Del_own_I {N g : Nat} {M : Cls Int} {w : World} (h : GrOwn codI 67 N g M w) (hN : N ≤ w.heap.size) (hlen : M.length ≤ 1000000) {a b : Int} (ha : (Lit.int .i64 a).wf = true) (hb : (Lit.int .i64 b).wf = true) :
    Calls Try.prog 27 #[.pointer (some ⟨g, 0, none⟩), .int .i64 a, .int .i64 b] w fun e w' => e = .returned (.bool (cget M a b).isSome) ∧ GrOwn codI 67 N g (cdel M a b) w' ∧ Below N w w' := by
  obtain ⟨F, h1, h2⟩ := h
  refine (grid_Del_I h1 hlen ha hb).mono ?_
  rintro e w' ⟨rfl, h3⟩
  exact ⟨rfl, GrOwn.to h3 h2 hN⟩
/-- told of a way. -/
theorem told_way {f : Value} {xs : List (Int × Int)} {w : World} (h : Way Try.prog encs_I f xs w) (hlen : xs.length ≤ 1000) :
    Calls Try.prog 17 #[f] w fun e w' => ∃ u v, e = .returned (.tuple #[u, v, .bool true]) ∧ OwnN w.heap.size u (xs.map (·.1)) w' ∧ OwnN w.heap.size v (xs.map (·.2)) w' ∧ Below w.heap.size w w' := by
  obtain ⟨gf, lb, rfl, eg, hi⟩ := h
  exact law_told gf lb xs w eg (hi 0) hlen

theorem OwnN.two {B : Nat} {v : Value} {x y : Int} {w : World} (h : OwnN B v [x, y] w) : ∃ b cap, v = .slice (some ⟨b, 0, none⟩) 2 cap ∧ w.cell? ⟨b, 0, none⟩ = some (.int .i64 x) ∧ w.cell? ⟨b, 1, none⟩ = some (.int .i64 y) := by
  obtain ⟨b, cap, rfl, h0, _, _⟩ := h.at (k := 0) (by simp)
  obtain ⟨b', cap', e, h1, _, _⟩ := h.at (k := 1) (by simp)
  injection e with e1 e2 e3
  injection e1 with e1
  injection e1 with e1
  subst e1
  exact ⟨b, cap, rfl, h0, h1⟩
def M3 : Cls Int := cput (cput (cput [] 5 1 7) 2 1 8) 2 3 9
theorem M3_col : colOf M3 1 = [(2, 8), (5, 7)] := by decide +kernel
theorem M3_len : M3.length = 3 := by decide +kernel
set_option maxRecDepth 100000 in
set_option maxHeartbeats 4000000 in
theorem law_known (w : World) : Calls Try.prog 15 #[] w fun e w' => e = .returned (.bool true) ∧ Below w.heap.size w w' := by
  have hw5 : (Lit.int .i64 5).wf = true := by decide
  have hw1 : (Lit.int .i64 1).wf = true := by decide
  have hw2 : (Lit.int .i64 2).wf = true := by decide
  have hw3 : (Lit.int .i64 3).wf = true := by decide
  go_enter Try.func15, Try.ntmps15
  have tok1 : True := trivial
  have tok2 : True := trivial
  go_wp2_with (first
    | (go_at_call 10; refine (grid_New_own_I w).mono ?_; rintro e w1 ⟨g, rfl, ho1, hb1⟩; have H1 := Lib.hid (And.intro ho1 hb1); clear ho1 hb1)
    | (go_at_call 22; have _t := tok1; refine (grid_Set_own_I H1.out.1 H1.out.2.size (by simp) hw5 hw1).mono ?_; rintro e w2 ⟨rfl, ho, hb⟩; have H2 := Lib.hid (And.intro ho (Below.trans H1.out.2 hb)); clear ho hb tok1)
    | (go_at_call 22; have _t := tok2; refine (grid_Set_own_I H2.out.1 H2.out.2.size (by decide) hw2 hw1).mono ?_; rintro e w3 ⟨rfl, ho, hb⟩; have H3 := Lib.hid (And.intro ho (Below.trans H2.out.2 hb)); clear ho hb tok2)
    | (go_at_call 22; refine (grid_Set_own_I H3.out.1 H3.out.2.size (by decide) hw2 hw3).mono ?_; rintro e w4 ⟨rfl, ho, hb⟩; have H4 := Lib.hid (And.intro (show GrOwn codI 67 w.heap.size g M3 w4 from ho) (Below.trans H3.out.2 hb)); clear ho hb)
    | (go_at_call 19; obtain ⟨F, hF, hF2⟩ := H4.out.1; refine (grid_Column_I hF (by rw [M3_len]; decide) hw1).mono ?_; rintro e w5 ⟨f, rfl, hway, hb⟩; have hway' := hway; obtain ⟨gf, lb, rfl, -⟩ := hway'; have H5 := Lib.hid (And.intro hway (And.intro (Below.trans H4.out.2 (hb.mono H4.out.2.size)) (GrOwn.below H4.out.1 hb))); clear hway hb hF hF2)
    | (go_at_call 17; refine (told_way H5.out.1 (by rw [M3_col]; decide)).mono ?_; rintro e w6 ⟨u, v, rfl, hu, hv, hb⟩; rw [M3_col] at hu hv; obtain ⟨b1, d1, rfl, k0, k1⟩ := hu.two; obtain ⟨b2, d2, rfl, k2, -⟩ := hv.two; have H6 := Lib.hid (And.intro (Below.trans H5.out.2.1 (hb.mono H5.out.2.1.size)) (GrOwn.below H5.out.2.2 hb)); clear hu hv hb)
    | (go_at_call 14; obtain ⟨F, hF, hF2⟩ := H6.out.2; refine (grid_Len_I hF).mono ?_; rintro e w7 ⟨rfl, rfl⟩; rw [M3_len]; clear hF hF2)
    | fail)
  go_ret
  exact ⟨rfl, H6.out.1⟩
end Go.Proofs.Ytlfngdfbimcjhaa
