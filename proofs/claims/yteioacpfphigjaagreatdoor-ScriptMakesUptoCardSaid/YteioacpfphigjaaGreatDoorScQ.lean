/-
  The reference's rows.
-/
import Derived.Test.YteioacpfphigjaaGreatDoorScR
import Derived.Test.YteioacpfphigjaaGreatDoorRrw
namespace Go.Proofs.YteioacpfphigjaaGreatDoor
open Go.RowKit Go.Maps Go.Shelf
set_option linter.unusedVariables false
set_option linter.unusedSimpArgs false

theorem appV_told {S : Nat} {v : Value} {us : List Value} {W : World} (ho : OwnV S v us W) (hS : S ≤ W.heap.size) (hl : us.length ≤ 100000) (u : Value) (hu : u.oneCell' = true) :
    ∃ ao cap w3, (appB2 #[v, .slice (some ⟨W.heap.size, 0, none⟩) 1 1]).run Tryz.prog (W.alloc (.cells #[u] 50)) = .ok (.slice ao (us.length + 1) cap) w3 ∧ OwnV S (.slice ao (us.length + 1) cap) (us ++ [u]) w3 ∧ (W.alloc (.cells #[u] 50)).grownBy w3 v.ownBlock := by
  obtain ⟨i0, hi0, hz0, hz1, hz2⟩ := info_parts info24
  have ho2 : OwnV S v us (W.alloc (.cells #[u] 50)) := ho.of (Nat.le_refl _) (fun k hk => Below.heap_alloc _ _ _ (World.ownsRow.lt ho k hk).2)
  obtain ⟨v2, wB, hrun2, ow2, hgB, -, -⟩ := run_append_own_at (P := Tryz.prog) (w := W.alloc (.cells #[u] 50)) S 51 51 50 i0 (.slice none 0 0) 1 24 Tryz.underlying51 hi0 hz0 hz1 hz2 rfl (by decide) v us.length us ho2 ⟨W.heap.size, 0, none⟩ 1 1 [u] rfl
    (cell_one_new _ _ _) (by simpa using hu) (by unfold maxLen; omega) (by omega) (by simp; omega)
  have hoB : OwnV S v2 (us ++ [u]) wB := by unfold OwnV; rw [List.length_append]; exact ow2
  obtain ⟨ao2, cap2, hv2⟩ := hoB.lenOf
  rw [List.length_append, List.length_singleton] at hv2
  subst hv2
  exact ⟨ao2, cap2, wB, hrun2, hoB, hgB⟩
/-- The reference's loop over rows. -/
structure RefRows (l : List Nat) (w wr : World) (v4 : Value) (pre : List (List Nat)) (rest : List Nat) (E : Bool) (us : List Value) (ao : Option Addr) (cap : Nat) : Prop where
  all : rowsOf l = pre ++ (if E = true then [] else rowsOf rest)
  own : OwnV (w.heap.size + 1) v4 us wr
  len : us.length = pre.length
  each : ∀ (i : Nat) (x : List Nat), pre[i]? = some x → ∃ u, us[i]? = some u ∧ RdB w u x
  rd : RBe wr w.heap.size (.slice ao rest.length cap) E
  rst : RdB w (.slice ao rest.length cap) rest
  by_ : ByL rest
  below : Below w.heap.size w wr
def lenVV : Value → Nat
  | .slice _ n _ => n
  | _ => 0
def errAt (b : Nat) (w : World) : Nat := match w.cell? ⟨b, 1, none⟩ with
  | some (.bool true) => 0
  | _ => 1
/-- The reference's rows come back. -/
def RowsRef (l : List Nat) (w : World) (e : Ending) (w' : World) : Prop :=
  ∃ v q, e = .returned (.tuple #[v, .bool q]) ∧ RdBB w' v (rowsOf l) ∧ Below w.heap.size w w'
theorem RefRows.read {l : List Nat} {w wr : World} {v4 : Value} {pre : List (List Nat)} {rest : List Nat} {E : Bool} {us : List Value} {ao : Option Addr} {cap : Nat} (h : RefRows l w wr v4 pre rest E us ao cap) (he : E = true ∨ rest = []) : RdBB wr v4 (rowsOf l) := by
  have hall : rowsOf l = pre := by
    rw [h.all]
    rcases he with rfl | rfl
    · simp
    · cases E <;> simp [rowsOf, rowsF, cutL, takeL]
  rw [hall]
  have ho' := h.own
  rcases h.own.2 with ⟨rfl, h0⟩ | ⟨g, cap', cur, rfl, hg, hh, hc, -⟩
  · exact .inl ⟨rfl, List.length_eq_zero_iff.1 (by rw [← h.len]; exact h0)⟩
  · refine .inr ⟨⟨g, 0, none⟩, cap', by rw [h.len], by rw [← h.len]; exact hc, fun i hi => ?_⟩
    obtain ⟨u, h1, h2⟩ := h.each i pre[i] (by simp [hi])
    refine ⟨_, World.ownsRow.cells ho' rfl i _ h1, ?_⟩
    have e : pre.getD i [] = pre[i] := by simp [hi]
    rw [e]; exact h2.below h.below
theorem rfR_some {l p : List Nat} {s : Nat} (h : cutL l = some (p, s)) : rfR l false = (p, l.drop s, false) := by simp [rfR, h]
theorem rfR_none {l : List Nat} (h : cutL l = none) : rfR l false = ([], l, true) := by simp [rfR, h]
set_option maxHeartbeats 4000000 in
set_option maxRecDepth 100000 in
attribute [local go_sem ↓] appB2_hide in
theorem ref15_Rows (v : Value) (l : List Nat) (w : World) (h : RdB w v l) (hb : ∀ b ∈ l, b < 256) (hl : l.length ≤ 10000) :
    Calls Tryz.prog 19 #[v] w (RowsRef l w) := by
  have hrle := rowsOf_le l
  obtain ⟨ao, cap, rfl⟩ := h.lenOf
  have h00 : RefRows l w (w.alloc (.cells #[.slice ao l.length cap, .bool false] 97)) (.slice none 0 0) [] l false [] ao cap := ⟨by simp, ⟨rfl, .inl ⟨rfl, rfl⟩⟩, rfl, fun i x hx => by simp at hx, World.alloc_heap_new _ _, h, ⟨hb, by omega⟩, (Below.refl _ w).alloc (Nat.le_refl _) _⟩
  have H00 := Lib.hid h00
  have HL := Lib.hid (And.intro hl hrle)
  clear h hb hl hrle h00
  go_enter Tryz.func19, Tryz.ntmps19
  go_wp2_with fail
  go_loopw [4] (fun v4 wr => ∃ pre rest E us ao cap, RefRows l w wr v4 pre rest E us ao cap) (fun v4 wr => 2 * (l.length - lenVV v4) + errAt w.heap.size wr)
  case atStart => exact ⟨_, _, _, _, _, _, H00.out⟩
  case round =>
    obtain ⟨pre, rest, E, us, aoR, capR, hR⟩ := hrel
    have c0 := hR.rd.cell0
    have c1 := hR.rd.cell1
    by_cases hx : E = true ∨ rest = []
    · have hrd := hR.read hx
      have hbl := hR.below
      have hc1 : wr.cell? ⟨w.heap.size, 1, none⟩ = some (.bool E) := c1
      obtain ⟨aoV, capV, rfl⟩ := hrd.lenOf
      have HRD := Lib.hid (And.intro hrd hbl)
      have hend : ∀ (q : Bool) (wx : World), wx = wr ∨ wx = wr.drew → RowsRef l w (.returned (.tuple #[.slice aoV (rowsOf l).length capV, .bool q])) wx := by
        rintro q wx (rfl | rfl)
        · exact ⟨_, q, rfl, hrd, hbl⟩
        · exact ⟨_, q, rfl, hrd.below (Below.refl _ _).drew, hbl.drew⟩
      have HE := Lib.hid hend
      clear hR hrd hbl hend
      by_cases hr0 : rest = []
      · subst hr0
        have d0 : decide ((0 : Int) < (([] : List Nat).length : Int)) = false := rfl
        clear hx
        go_wp2_with fail
        go_region
        all_goals
          go_wp2_with fail
          exact bodyPost_ret (v := .tuple #[.slice aoV (rowsOf l).length capV, .bool (!E)]) (by simp [results, Tryz.results19, go_sem]) rfl (HE.out _ _ (by simp))
      · have hE : E = true := by rcases hx with h | h; exact h; exact absurd h hr0
        subst hE
        obtain ⟨n, hn⟩ : ∃ n, n = rest.length := ⟨_, rfl⟩
        have hn0 : 0 < n := by rw [hn]; exact List.length_pos_iff.2 hr0
        rw [← hn] at c0
        have d0 : decide ((0 : Int) < (n : Int)) = true := by simp; omega
        have d1 : decide (0 < n) = true := by simp; omega
        clear hx
        go_wp2_with fail
        go_region
        all_goals
          go_wp2_with fail
          exact bodyPost_ret (v := .tuple #[.slice aoV (rowsOf l).length capV, .bool false]) (by simp [results, Tryz.results19, go_sem]) rfl (HE.out _ _ (by simp))
    · have hE : E = false := by cases E; rfl; exact absurd (.inl rfl) hx
      subst hE
      have hr0 : rest ≠ [] := fun h => hx (.inr h)
      obtain ⟨n, hn⟩ : ∃ n, n = rest.length := ⟨_, rfl⟩
      have hn0 : 0 < n := by rw [hn]; exact List.length_pos_iff.2 hr0
      rw [← hn] at c0
      have d0 : decide ((0 : Int) < (n : Int)) = true := by simp; omega
      have d1 : decide (0 < n) = true := by simp; omega
      clear hn
      have HR := Lib.hid hR
      have hlv : lenVV u4 = pre.length := by
        obtain ⟨a, c, hv⟩ := hR.own.lenOf
        rw [hv, ← hR.len]; rfl
      have hee : errAt w.heap.size wr = 1 := by unfold errAt; rw [c1]
      have hpl : pre.length ≤ l.length := by have h1 := hR.all; have := congrArg List.length h1; have h2 := HL.out.2; simp at this; omega
      have HM := Lib.hid (And.intro hlv (And.intro hee hpl))
      clear hlv hee hpl hx
      cases hc : cutL rest with
      | none =>
        have hrow := ref_RdRowW w.heap.size _ false rest w wr hR.below hR.rst hR.rd hR.by_
        rw [rfR_none hc] at hrow
        have HROW := Lib.hid hrow
        have HC := Lib.hid hc
        clear hR hrow hc
        go_wp2_with (first
          | (go_at_call 49; refine HROW.out.mono ?_; rintro e w2 ⟨u, rfl, hu, hg, v', hx', hv'⟩; obtain ⟨aoX, capX, rfl⟩ := hv'.lenOf; have e1 := hx'.cell1; have H2 := Lib.hid (And.intro hg (And.intro hx' hv')); clear hu hg hx' hv')
          | fail)
        obtain ⟨hg, hx', hv'⟩ := H2.out
        have hR := HR.out
        refine ⟨⟨pre, rest, true, us, aoX, capX, ?_, hR.own.of (Nat.le_refl _) (fun k hk => hg.block k (World.ownsRow.lt hR.own k hk).2 (fun e => by injection e with e; have := (World.ownsRow.lt hR.own k hk).1; omega)), hR.len, hR.each, hx', hv', hR.by_, Below.grown hR.below hg hR.below.size (fun j hj => by injection hj with hj; omega)⟩, ?_⟩
        · rw [hR.all, rowsOf_none HC.out]; simp
        · have hne : errAt w.heap.size wr = 1 := HM.out.2.1
          have : errAt w.heap.size w2 = 0 := by unfold errAt; rw [hx'.cell1]
          omega
      | some x =>
        obtain ⟨p, s⟩ := x
        have hrow := ref_RdRowW w.heap.size _ false rest w wr hR.below hR.rst hR.rd hR.by_
        rw [rfR_some hc] at hrow
        have HROW := Lib.hid hrow
        have HC := Lib.hid hc
        clear hR hrow hc
        go_wp2_with (first
          | (go_at_call 49; refine HROW.out.mono ?_; rintro e w2 ⟨u, rfl, hu, hg, v', hx', hv'⟩; obtain ⟨aoX, capX, rfl⟩ := hv'.lenOf; obtain ⟨aoU, capU, rfl⟩ := hu.lenOf; have e1 := hx'.cell1; have hown2 : OwnV (w.heap.size + 1) u4 us w2 := (HR.out.own.of (Nat.le_refl _) (fun k hk => hg.block k (World.ownsRow.lt HR.out.own k hk).2 (fun e => by injection e with e; have := (World.ownsRow.lt HR.out.own k hk).1; omega))); obtain ⟨ao3, cap3, w3, hrun, ho3, hg3⟩ := appV_told hown2 (by have := hx'.lt; omega) (by have := HR.out.len; have := HM.out.2.2; have := HL.out.1; omega) (.slice aoU p.length capU) rfl; have H2 := Lib.hid (And.intro hu (And.intro hg (And.intro hx' hv'))); have H3 := Lib.hid (And.intro hown2 (And.intro ho3 hg3)); clear hu hg hx' hv' hown2 ho3 hg3)
          | fail)
        obtain ⟨hu, hg, hx', hv'⟩ := H2.out
        obtain ⟨hown2, ho3, hg3⟩ := H3.out
        have hR := HR.out
        obtain ⟨q1, q2, q3, q4, q5⟩ := cutL_some HC.out
        have hlt2 := hx'.lt
        have hg2s := hg.size
        have hb2 : Below w.heap.size w w2 := Below.grown hR.below hg hR.below.size (fun j hj => by injection hj with hj; omega)
        have hb3 : Below w.heap.size w w3 := Below.grown (hb2.alloc hb2.size _) hg3 (by have := hb2.size; rw [World.size_alloc]; omega) (fun j hj => by have := (World.ownsRow.lt hown2 j hj).1; omega)
        have hx3 : RBe w3 w.heap.size (.slice aoX (rest.drop s).length capX) false := (hg3.block _ (by rw [World.size_alloc]; omega) (fun e => by have := (World.ownsRow.lt hown2 _ e.symm).1; omega)).trans ((Below.heap_alloc _ _ _ hlt2).trans hx')
        have hall : rowsOf l = (pre ++ [p]) ++ (if false = true then [] else rowsOf (rest.drop s)) := by
          rw [hR.all]; simp [rowsOf_some HC.out]
        refine ⟨⟨pre ++ [p], rest.drop s, false, us ++ [.slice aoU p.length capU], aoX, capX, hall, ho3, by simp [hR.len], fun i x hi => ?_, hx3, hv', hR.by_.drop s, hb3⟩, ?_⟩
        · by_cases hlt : i < pre.length
          · rw [List.getElem?_append_left hlt] at hi
            obtain ⟨u, h1, h2⟩ := hR.each i x hi
            exact ⟨u, by rw [List.getElem?_append_left (by rw [hR.len]; exact hlt)]; exact h1, h2⟩
          · rw [List.getElem?_append_right (by omega)] at hi
            have hie : i = pre.length := by
              have := (List.getElem?_eq_some_iff.1 hi).1
              simp at this; omega
            subst hie
            simp at hi
            subst hi
            exact ⟨_, by rw [List.getElem?_append_right (by rw [hR.len]; exact Nat.le_refl _)]; simp [hR.len], hu⟩
        · have h1 := HM.out.1
          have h2 := HM.out.2.1
          have h3 : errAt w.heap.size w3 = 1 := by unfold errAt; rw [hx3.cell1]
          have h4 : pre.length + 1 ≤ l.length := by
            have h5 := congrArg List.length hall
            have h6 := HL.out.2
            simp at h5; omega
          have h5 : lenVV (Value.slice ao3 (us.length + 1) cap3) = us.length + 1 := rfl
          have h6 := hR.len
          omega
end Go.Proofs.YteioacpfphigjaaGreatDoor
