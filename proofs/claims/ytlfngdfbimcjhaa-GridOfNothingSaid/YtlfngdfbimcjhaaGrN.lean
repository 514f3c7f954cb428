/-
  The law GridOfNothing, walked.
-/
import Derived.Test.YtlfngdfbimcjhaaCls
namespace Go.Proofs.Ytlfngdfbimcjhaa
open Go.RowKit Go.Maps Go.Shelf
set_option linter.unusedVariables false
set_option linter.unusedSimpArgs false

set_option maxRecDepth 100000 in
set_option maxHeartbeats 4000000 in
theorem gridOfNothing_walk (a b : Int) (wa : (Lit.int .i64 a).wf = true) (wb : (Lit.int .i64 b).wf = true) (w : World) : Calls Try.prog 9 #[.int .i64 a, .int .i64 b] w fun e w' => e = .returned (.bool true) ∧ Below w.heap.size w w' := by
  have hG := grid_Get_nil_I
  dsimp only [codI] at hG
  have HG := Lib.hid hG
  clear hG
  go_enter Try.func9, Try.ntmps9
  have H0 := Lib.hid (Below.refl w.heap.size w)
  have tok1 : True := trivial
  go_wp2_with (first
    | (go_at_call 22; refine (grid_Set_nil_I w a b _).mono ?_; rintro e w' ⟨rfl, rfl⟩)
    | (go_at_call 28; refine (HG.out _ a b).mono ?_; rintro e w' ⟨rfl, rfl⟩)
    | (go_at_call 18; refine (grid_Row_nil_I a _).mono ?_; rintro e w1 ⟨f, rfl, hway, hb⟩; have hway' := hway; obtain ⟨gf, lb, rfl, -⟩ := hway'; have H1 := Lib.hid (And.intro hway hb); clear hway hb)
    | (go_at_call 17; have _t := tok1; refine (told_way H1.out.1 (by simp)).mono ?_; rintro e w2 ⟨u, v, rfl, hu, hv, hb⟩; obtain ⟨ab1, ac1, rfl⟩ := hu.lenOf; obtain ⟨ab2, ac2, rfl⟩ := hv.lenOf; dsimp only [List.map_nil, List.length_nil]; have H2 := Lib.hid (H1.out.2.trans (hb.mono H1.out.2.size)); clear hu hv hb tok1)
    | (go_at_call 19; refine (grid_Column_nil_I b _).mono ?_; rintro e w3 ⟨f, rfl, hway, hb⟩; have hway' := hway; obtain ⟨gf, lb, rfl, -⟩ := hway'; have H3 := Lib.hid (And.intro hway (H2.out.trans (hb.mono H2.out.size))); clear hway hb)
    | (go_at_call 17; refine (told_way H3.out.1 (by simp)).mono ?_; rintro e w4 ⟨u, v, rfl, hu, hv, hb⟩; obtain ⟨ab3, ac3, rfl⟩ := hu.lenOf; obtain ⟨ab4, ac4, rfl⟩ := hv.lenOf; dsimp only [List.map_nil, List.length_nil]; have H4 := Lib.hid (H3.out.2.trans (hb.mono H3.out.2.size)); clear hu hv hb)
    | (go_at_call 12; refine (law_cells none [] _ (fun w' _ => grid_Cells_nil_I w') (by simp)).mono ?_; rintro e w5 ⟨v, rfl, ho, hb⟩; obtain ⟨ab5, ac5, rfl⟩ := ho.lenOf; dsimp only [List.length_nil]; have H5 := Lib.hid (H4.out.trans (hb.mono H4.out.size)); clear ho hb)
    | (go_at_call 27; refine (grid_Del_nil_I _ a b).mono ?_; rintro e w' ⟨rfl, rfl⟩)
    | (go_at_call 14; refine (grid_Len_nil_I _).mono ?_; rintro e w' ⟨rfl, rfl⟩)
    | (go_at_call 15; refine (law_known _).mono ?_; rintro e w6 ⟨rfl, hb⟩; have H6 := Lib.hid (H5.out.trans (hb.mono H5.out.size)); clear hb)
    | fail)
  go_ret
  exact ⟨rfl, H6.out⟩
end Go.Proofs.Ytlfngdfbimcjhaa
