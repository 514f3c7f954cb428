/-
  Joined texts.
-/
import Derived.Deep.RegionHeld3
import Derived.Shelf.SlIterI.Nil
import Derived.Shelf.SortM.Plain
import Derived.Shelf.SortM.SortNone
import Derived.Ground.GgzProg
import Derived.Ground.SlgmProg
import Derived.Shelf.SlGeneric
import Derived.Test.YtpkamfbjgdmmoaaGreatProg
import Derived.OwnWalkIn
import Derived.TacticsInMore
import Derived.Test.YtpkamfbjgdmmoaaGreatChecked
import Derived.WalkKit
import Derived.Lib.Hide
import Derived.Below
import Derived.Maps.OwnIn
import Derived.Maps.AppendAt
import Derived.RangeFuncBox
import Derived.Deep.MidRow
import Derived.Test.YtpkamfbjgdmmoaaGreatMsb

section
namespace Go.Proofs.YtpkamfbjgdmmoaaGreat
open Go.RowKit Go.Maps
set_option linter.unusedVariables false
set_option linter.unusedSimpArgs false

/-- What a change of a table leaves. -/
def GrTo {β : Type} (c : Cod β) (T : TypeId) (g : Nat) (M : Cls β) (F : FP) (w w' : World) : Prop :=
  ∃ F', GrAt c T g M F' w' ∧ (∀ k, F' k → F k ∨ w.heap.size ≤ k) ∧ Only F (fun _ => False) w w'
theorem cells3 {w : World} {g : Nat} {T : TypeId} {u0 u1 u2 : Value} (h : w.heap[g]? = some (.cells #[u0, u1, u2] T (0, 0))) :
    w.cell? ⟨g, 0, none⟩ = some u0 ∧ w.cell? ⟨g, 1, none⟩ = some u1 ∧ w.cell? ⟨g, 2, none⟩ = some u2 ∧ w.frozen? ⟨g, 0, none⟩ = false ∧ w.frozen? ⟨g, 1, none⟩ = false ∧ w.frozen? ⟨g, 2, none⟩ = false := by
  refine ⟨by rw [World.cell?, h]; rfl, by rw [World.cell?, h]; rfl, by rw [World.cell?, h]; rfl, ?_, ?_, ?_⟩ <;> simp [World.frozen?, h]
theorem set3 {w : World} {g : Nat} {T : TypeId} {u0 u1 u2 u : Value} (h : w.heap[g]? = some (.cells #[u0, u1, u2] T (0, 0))) :
    (w.setCell ⟨g, 0, none⟩ u).heap[g]? = some (.cells #[u, u1, u2] T (0, 0)) ∧ (w.setCell ⟨g, 1, none⟩ u).heap[g]? = some (.cells #[u0, u, u2] T (0, 0)) ∧ (w.setCell ⟨g, 2, none⟩ u).heap[g]? = some (.cells #[u0, u1, u] T (0, 0)) := by
  have hlt : g < w.heap.size := (Array.getElem?_eq_some_iff.1 h).1
  have hg := (Array.getElem?_eq_some_iff.1 h).2
  refine ⟨?_, ?_, ?_⟩ <;> simp [World.setCell, Array.getElem?_modify, h]
theorem only_set {w : World} {g o : Nat} {u : Value} {Ψ : FP} (h : Ψ g) : Only Ψ (fun _ => False) w (w.setCell ⟨g, o, none⟩ u) :=
  ⟨⟨rfl, rfl, rfl, by simp [World.setCell]⟩, fun k hk h1 _ => Below.heap_setCell _ _ _ k (fun e => h1 (by subst e; exact h))⟩
theorem map_ne {w : World} {g k : Nat} {T : TypeId} {cs : Array Value} {es : Array MapEntry} {cl : Nat} (h : w.heap[g]? = some (.cells cs T (0, 0))) (hk : w.heap[k]? = some (.map es cl)) : k ≠ g := by
  rintro rfl
  rw [h] at hk; cases hk
theorem set_block {w : World} {g o k : Nat} {u : Value} (h : k ≠ g) : (w.setCell ⟨g, o, none⟩ u).heap[k]? = w.heap[k]? := Below.heap_setCell _ _ _ k h
section
variable {β : Type} {c : Cod β} {B C : Nat} {rm cm : List (Int × Option Nat)} {M : Cls β} {w w' : World}
theorem MapsAt.block (h : MapsAt c B C rm cm M w) (hb : ∀ k, oblk B rm k ∨ oblk C cm k → w'.heap[k]? = w.heap[k]?) : MapsAt c B C rm cm M w' :=
  ⟨h.row.block (fun k hk => hb k (.inl hk)), h.col.block (fun k hk => hb k (.inr hk)), h.off⟩
theorem MapsAt.notg {g : Nat} {T : TypeId} {cs : Array Value} (h : MapsAt c B C rm cm M w) (hg : w.heap[g]? = some (.cells cs T (0, 0))) {k : Nat} (hk : oblk B rm k ∨ oblk C cm k) : k ≠ g := by
  rcases hk with hk | hk
  · obtain ⟨es, cl, he⟩ := h.row.isMap hk
    exact map_ne hg he
  · obtain ⟨es, cl, he⟩ := h.col.isMap hk
    exact map_ne hg he
theorem MapsAt.set {g o : Nat} {T : TypeId} {cs : Array Value} {u : Value} (h : MapsAt c B C rm cm M w) (hg : w.heap[g]? = some (.cells cs T (0, 0))) : MapsAt c B C rm cm M (w.setCell ⟨g, o, none⟩ u) :=
  h.block (fun k hk => set_block (h.notg hg hk))
/-- Both sides are changed, the columns first. -/
theorem maps_to {g : Nat} {T : TypeId} {F : FP} {M' : Cls β} {w0 w1 w2 w3 : World} {n : Int} (h0 : Only F (fun _ => False) w0 w1)
    (hg : w1.heap[g]? = some (.cells #[.map (some B), .map (some C), .int .i64 n] T (0, 0))) (hM : MapsAt c B C rm cm M w1) (hs : SrtC M') (hn : n = M'.length) (hF : F g) (hFl : ∀ k, F k → k < w0.heap.size) (hF1 : ∀ k, oblk B rm k → F k ∨ w0.heap.size ≤ k) (hF2 : ∀ k, oblk C cm k → F k ∨ w0.heap.size ≤ k)
    (hc : OutTo codU C cm (colU M') w1 w2) (hr : ∀ h2 : OutAt c B rm (rowOf M) w2, OutTo c B rm (rowOf M') w2 w3) : GrTo c T g M' F w0 w3 := by
  obtain ⟨cm', c1, c2, c3⟩ := hc
  have hrow2 : OutAt c B rm (rowOf M) w2 := hM.row.block (fun k hk => c2.block k (hM.row.lt hk) (hM.off k hk) (fun h => h))
  obtain ⟨rm', r1, r2, r3⟩ := hr hrow2
  have hglt : g < w1.heap.size := (Array.getElem?_eq_some_iff.1 hg).1
  have hcol3 : OutAt codU C cm' (colU M') w3 := c1.block (fun k hk => r2.block k (c1.lt hk) (fun hk' => by
    rcases c3 k hk with h | h
    · exact hM.off k hk' h
    · have := hM.row.lt hk'; omega) (fun h => h))
  have hg3 : w3.heap[g]? = some (.cells #[.map (some B), .map (some C), .int .i64 n] T (0, 0)) := by
    rw [r2.block g (Nat.lt_of_lt_of_le hglt c2.grow.size) (fun hk => hM.notg hg (.inl hk) rfl) (fun h => h), c2.block g hglt (fun hk => hM.notg hg (.inr hk) rfl) (fun h => h)]
    exact hg
  have hsz1 := h0.grow.size
  have hsz2 := c2.grow.size
  have hsz3 := r2.grow.size
  have hlt : ∀ k, k < w0.heap.size → ¬ F k → ¬ oblk B rm k ∧ ¬ oblk C cm k := fun k hk hnF =>
    ⟨fun h => (hF1 k h).elim hnF (fun h => by omega), fun h => (hF2 k h).elim hnF (fun h => by omega)⟩
  refine ⟨fun k => F k ∨ (w0.heap.size ≤ k ∧ k < w3.heap.size), ⟨hs, .inl hF, fun k hk => ?_, .inr ⟨B, C, rm', cm', by rw [hg3, hn], ⟨r1, hcol3, fun k hk hk' => ?_⟩, fun k hk => ?_, fun k hk => ?_⟩⟩, fun k hk => hk.imp id (fun h => h.1), ?_⟩
  · rcases hk with h | h
    · have := hFl k h; omega
    · exact h.2
  · have e1 := r3 k hk
    have e2 := c3 k hk'
    have l2 := c1.lt hk'
    rcases e1 with e1 | e1
    · have := hM.row.lt e1
      rcases e2 with e2 | e2
      · exact hM.off k e1 e2
      · omega
    · omega
  · have hl := r1.lt hk
    rcases r3 k hk with h | h
    · exact (hF1 k h).imp id (fun h => ⟨h, hl⟩)
    · exact .inr ⟨by omega, hl⟩
  · have hl := hcol3.lt hk
    rcases c3 k hk with h | h
    · exact (hF2 k h).imp id (fun h => ⟨h, hl⟩)
    · exact .inr ⟨by omega, hl⟩
  · refine ⟨(h0.grow.trans c2.grow).trans r2.grow, fun k hk h1 _ => ?_⟩
    obtain ⟨n1, n2⟩ := hlt k hk h1
    rw [r2.block k (by omega) n1 (fun h => h), c2.block k (by omega) n2 (fun h => h)]
    exact h0.block k hk h1 (fun h => h)
/-- One side is changed, the rows. -/
theorem row_to {g : Nat} {T : TypeId} {F : FP} {M' : Cls β} {w0 w1 w3 : World} {n : Int} (h0 : Only F (fun _ => False) w0 w1)
    (hg : w1.heap[g]? = some (.cells #[.map (some B), .map (some C), .int .i64 n] T (0, 0))) (hM : MapsAt c B C rm cm M w1) (hs : SrtC M') (hn : n = M'.length) (hF : F g) (hFl : ∀ k, F k → k < w0.heap.size) (hF1 : ∀ k, oblk B rm k → F k ∨ w0.heap.size ≤ k) (hF2 : ∀ k, oblk C cm k → F k ∨ w0.heap.size ≤ k)
    (hc : colU M' = colU M) (hr : OutTo c B rm (rowOf M') w1 w3) : GrTo c T g M' F w0 w3 :=
  maps_to h0 hg hM hs hn hF hFl hF1 hF2 ⟨cm, by rw [hc]; exact hM.col, Only.refl _ _ _, fun k hk => .inl hk⟩ (fun _ => hr)
end

set_option maxRecDepth 100000 in
set_option maxHeartbeats 4000000 in
theorem grid_Set_I {g : Nat} {M : Cls Int} {F : FP} {w : World} (h : GrAt codI 209 g M F w) (hlen : M.length ≤ 1000000) {a b : Int} (ha : (Lit.int .i64 a).wf = true) (hb : (Lit.int .i64 b).wf = true) (v : Int) :
    Calls Tryz.prog 116 #[.pointer (some ⟨g, 0, none⟩), .int .i64 a, .int .i64 b, .int .i64 v] w fun e w' => e = .returned (.tuple #[]) ∧ GrTo codI 209 g (cput M a b v) F w w' := by
  have hu1 : Tryz.prog.underlying 207 = some (.map 3 241) := Tryz.underlying207
  have hu2 : Tryz.prog.underlying 241 = some (.map 3 3) := Tryz.underlying241
  have hz1 : ∀ w, (zeroValue 241).run Tryz.prog w = .ok (codM.enc none) w := fun w => Tryz.zeroValue241 w
  have hz2 : ∀ w, (zeroValue 3).run Tryz.prog w = .ok (codI.enc (0 : Int)) w := fun w => Tryz.zeroValue3 w
  have hmm := @run_makeMap Tryz.prog
  obtain ⟨hs, hFg, hFl, hmem⟩ := h
  have hkey : ∃ (mv : Option Nat) (q : Bool), w.cell? ⟨g, 0, none⟩ = some (.map mv) ∧ (∀ w, (binOp .eql 207 (.map mv) (.map Option.none)).run Tryz.prog w = .ok (.bool q) w) ∧
      ((q = true ∧ M = [] ∧ w.heap[g]? = some (.cells #[.map none, .map none, .int .i64 0] 209 (0, 0))) ∨
       (q = false ∧ ∃ B C rm cm, w.heap[g]? = some (.cells #[.map (some B), .map (some C), .int .i64 M.length] 209 (0, 0)) ∧ MapsAt codI B C rm cm M w ∧ (∀ k, oblk B rm k → F k) ∧ (∀ k, oblk C cm k → F k))) := by
    rcases hmem with ⟨e, hh⟩ | ⟨B, C, rm, cm, hh, h⟩
    · exact ⟨none, true, (cells3 hh).1, fun w => by kernel_rfl, .inl ⟨rfl, e, hh⟩⟩
    · exact ⟨some B, false, (cells3 hh).1, fun w => by kernel_rfl, .inr ⟨rfl, B, C, rm, cm, hh, h⟩⟩
  obtain ⟨mv, q, kq, hq, hmem⟩ := hkey
  have HM := Lib.hid hmem
  have HFl := Lib.hid hFl
  have HFg := Lib.hid hFg
  clear hmem hFl hFg
  go_enter Tryz.func116, Tryz.ntmps116
  go_upto_if 16 with fail
  clear hq kq
  go_cut [] (fun wx => ∃ B C rm cm, wx.heap[g]? = some (.cells #[.map (some B), .map (some C), .int .i64 M.length] 209 (0, 0)) ∧ MapsAt codI B C rm cm M wx ∧ Only F (fun _ => False) w wx ∧ (∀ k, oblk B rm k → F k ∨ w.heap.size ≤ k) ∧ (∀ k, oblk C cm k → F k ∨ w.heap.size ≤ k))
  case first =>
    rcases HM.out with ⟨rfl, e, hh⟩ | ⟨rfl, B, C, rm, cm, hh, hM, h1, h2⟩
    · obtain ⟨k0, k1, k2, f0, f1, f2⟩ := cells3 hh
      have hglt : g < w.heap.size := (Array.getElem?_eq_some_iff.1 hh).1
      have HH := Lib.hid hh
      have HGL := Lib.hid hglt
      have HE := Lib.hid e
      clear hh e
      go_wp2_with fail
      go_meet
      obtain rfl := HE.out
      obtain ⟨v0, hv0⟩ : ∃ v0, v0 = (w.setCell ⟨g, 0, none⟩ (.map (some w.heap.size))).setCell ⟨g, 1, none⟩ (.map (some (w.heap.size + 1))) := ⟨_, rfl⟩
      have hvs : v0.heap.size = w.heap.size := by rw [hv0]; simp [World.setCell]
      have hg3 : v0.heap[g]? = some (.cells #[.map (some w.heap.size), .map (some (w.heap.size + 1)), .int .i64 0] 209 (0, 0)) := by rw [hv0]; exact (set3 (set3 HH.out).1).2.1
      have hov : Only F (fun _ => False) w v0 := by rw [hv0]; exact only_trans (only_set HFg.out) (only_set HFg.out)
      rw [← hv0]
      clear hv0
      have hr : OutAt codI w.heap.size [] (rowOf []) ((v0.alloc (.map #[] 0)).alloc (.map #[] 0)) := by
        have := OutAt.made codI v0
        rw [hvs] at this
        exact (this.block (fun k hk => Below.heap_alloc _ _ k (this.lt hk))).congr (fun _ => rfl)
      have hc : OutAt codU (w.heap.size + 1) [] (colU ([] : Cls Int)) ((v0.alloc (.map #[] 0)).alloc (.map #[] 0)) := by
        have := OutAt.made codU (v0.alloc (.map #[] 0))
        rw [World.size_alloc, hvs] at this
        exact this.congr (fun _ => rfl)
      have hob : ∀ B k, oblk B [] k → k = B := fun B k hk => hk.elim id (fun ⟨a, ha⟩ => by simp [sget] at ha)
      have hM1 : MapsAt codI w.heap.size (w.heap.size + 1) [] [] ([] : Cls Int) ((v0.alloc (.map #[] 0)).alloc (.map #[] 0)) := ⟨hr, hc, fun k hk hk' => by have := hob _ _ hk; have := hob _ _ hk'; omega⟩
      have hg1 : ((v0.alloc (.map #[] 0)).alloc (.map #[] 0)).heap[g]? = some (.cells #[.map (some w.heap.size), .map (some (w.heap.size + 1)), .int .i64 0] 209 (0, 0)) := by
        rw [Below.heap_alloc _ _ g (by simp; omega), Below.heap_alloc _ _ g (by omega)]; exact hg3
      refine ⟨_, _, _, _, hg1, hM1, ?_, fun k hk => .inr ?_, fun k hk => .inr ?_⟩
      · exact only_trans hov (only_trans (only_alloc _) (only_alloc _))
      · have := hob _ _ hk; omega
      · have := hob _ _ hk; omega
    · obtain ⟨k0, k1, k2, f0, f1, f2⟩ := cells3 hh
      have HH := Lib.hid hh
      have HMM := Lib.hid hM
      have H1 := Lib.hid h1
      have H2 := Lib.hid h2
      clear hh hM h1 h2
      go_wp2_with fail
      go_meet
      exact ⟨B, C, rm, cm, HH.out, HMM.out, Only.refl _ _ _, fun k hk => .inl (H1.out k hk), fun k hk => .inl (H2.out k hk)⟩
  case rest =>
    obtain ⟨B, C, rm, cm, hh, hM, ho, h1, h2⟩ := hcut
    obtain ⟨k0, k1, k2, f0, f1, f2⟩ := cells3 hh
    have hrl := outer_length hM.row hs
    have hcl := cols_length hM.col
    have hra := row_length M a
    have hcb := colU_length M b
    have hFl := HFl.out
    have hFg := HFg.out
    obtain ⟨mi, hl1, hl2⟩ : ∃ mi, (Instr.lookup 207 (.map (some B)) (.int .i64 a) false).run Tryz.prog wc = .ok (.map mi) wc ∧
        (Instr.lookup 241 (.map mi) (.int .i64 b) true).run Tryz.prog wc = .ok (.tuple #[codI.enc ((cget M a b).getD (0 : Int)), .bool (cget M a b).isSome]) wc := by
      have hl := hM.row.map.look (z0 := none) hu1 (hz1 wc) ha
      cases hsg : sget rm a with
      | none =>
        rw [hsg] at hl
        refine ⟨none, hl, ?_⟩
        have hr := hM.row.isNil hsg
        have : cget M a b = none := by rw [cget, hr]; rfl
        rw [this]
        exact nil_look hu2 (hz2 wc) hb true
      | some x =>
        obtain ⟨b', rfl, _, _, h3⟩ := hM.row.at_ a x hsg
        rw [hsg] at hl
        exact ⟨some b', hl, h3.look_ok hu2 (hz2 wc) hb⟩
    obtain ⟨r, hr⟩ : ∃ r, r = codI.enc ((cget M a b).getD (0 : Int)) := ⟨_, rfl⟩
    rw [← hr] at hl2
    clear hr
    by_cases hsome : (cget M a b).isSome = true
    · -- the cell was there
      rw [hsome] at hl2
      have hcol : colU (cput M a b v) = colU M := by
        rw [← colU_put hs]
        funext j
        split
        · rename_i e; subst e
          obtain ⟨u, hu⟩ := Option.isSome_iff_exists.1 hsome
          refine ((srt_colU hs j).put _ _).ext (srt_colU hs j) (fun x => ?_)
          rw [mem_sput]
          constructor
          · rintro (e | e)
            · subst e; exact mem_colU.2 ⟨u, mem_colOf.2 (hs.get.1 hu)⟩
            · exact e.1
          · intro hx
            by_cases e : x.1 = a
            · exact .inl (by rw [← e])
            · exact .inr ⟨hx, e⟩
        · rfl
      have hn : (M.length : Int) = (cput M a b v).length := by rw [hs.length_put, if_pos hsome]
      have hlay := lay_I hM.row (by unfold maxLen; omega) (a := a) (b := b) (by unfold maxLen; omega) ha hb v
      rw [rowOf_put hs] at hlay
      have HLAY := Lib.hid hlay
      have HL1 := Lib.hid hl1
      have HL2 := Lib.hid hl2
      have HFIN := Lib.hid (And.intro ho (And.intro hh (And.intro hM (And.intro (hs.put a b v) (And.intro hn (And.intro hFg (And.intro hFl (And.intro h1 (And.intro h2 hcol)))))))))
      clear hlay hl1 hl2 ho hh hM hs hn hFg hFl h1 h2 hcol hsome hrl hcl hra hcb hlen ha hb hu1 hu2 hz1 hz2 hmm
      have tok1 : True := trivial
      go_wp2_with (first
        | (at_lookup; have _t := tok1; refine wpl_look rfl _ _ _ _ rfl rfl rfl HL1.out ?_; clear tok1)
        | (at_lookup; refine wpl_look rfl _ _ _ _ rfl rfl rfl HL2.out ?_)
        | (go_at_call 136; refine HLAY.out.mono ?_; rintro e w2 ⟨rfl, hout⟩; have HOUT := Lib.hid hout; clear hout)
        | fail)
      refine bodyPost_end (results_none rfl _ _ _) rfl ⟨rfl, ?_⟩
      obtain ⟨ho, hh, hM, hs', hn, hFg, hFl, h1, h2, hcol⟩ := HFIN.out
      exact row_to ho hh hM hs' hn hFg hFl h1 h2 hcol HOUT.out
    · -- it was not
      have hnone : (cget M a b).isSome = false := by simpa using hsome
      rw [hnone] at hl2
      have W1 : IntKind.i64.wrap ((M.length : Int) + 1) = (M.length : Int) + 1 := IntWalk.i64_in _ (by omega)
      obtain ⟨wy, hwy⟩ : ∃ wy, wy = wc.setCell ⟨g, 2, none⟩ (.int .i64 ((M.length : Int) + 1)) := ⟨_, rfl⟩
      have hgy : wy.heap[g]? = some (.cells #[.map (some B), .map (some C), .int .i64 ((M.length : Int) + 1)] 209 (0, 0)) := by rw [hwy]; exact (set3 hh).2.2
      have hMy : MapsAt codI B C rm cm M wy := by rw [hwy]; exact hM.set hh
      have hoy : Only F (fun _ => False) w wy := only_trans ho (by rw [hwy]; exact only_set hFg)
      have hn : (M.length : Int) + 1 = (cput M a b v).length := by rw [hs.length_put, if_neg hsome]; simp
      have hlayC := lay_U hMy.col (by unfold maxLen; omega) (a := b) (b := a) (by unfold maxLen; omega) hb ha ()
      rw [colU_put hs a b v] at hlayC
      have hlayR : ∀ w2, OutAt codI B rm (rowOf M) w2 → Calls Tryz.prog 136 #[.map (some B), .int .i64 a, .int .i64 b, .int .i64 v] w2 fun e w' => e = .returned (.tuple #[]) ∧ OutTo codI B rm (rowOf (cput M a b v)) w2 w' := fun w2 h2 => by
        have := lay_I h2 (by unfold maxLen; omega) (a := a) (b := b) (by unfold maxLen; omega) ha hb v
        rw [rowOf_put hs] at this
        exact this
      have hkeep : ∀ w2, OutTo codU C cm (colU (cput M a b v)) wy w2 → w2.cell? ⟨g, 0, none⟩ = some (.map (some B)) ∧ OutAt codI B rm (rowOf M) w2 := fun w2 ⟨cm', c1, c2, c3⟩ => by
        have hglt : g < wy.heap.size := (Array.getElem?_eq_some_iff.1 hgy).1
        refine ⟨?_, hMy.row.block (fun k hk => c2.block k (hMy.row.lt hk) (hMy.off k hk) (fun h => h))⟩
        rw [World.cell?_of_block (c2.block g hglt (fun hk => hMy.notg hgy (.inr hk) rfl) (fun h => h))]
        exact (cells3 hgy).1
      rw [hwy] at hlayC hkeep
      have HLC := Lib.hid hlayC
      have HLR := Lib.hid hlayR
      have HKP := Lib.hid hkeep
      have HL1 := Lib.hid hl1
      have HL2 := Lib.hid hl2
      have HW := Lib.hid hwy
      have HFIN := Lib.hid (And.intro hoy (And.intro hgy (And.intro hMy (And.intro (hs.put a b v) (And.intro hn (And.intro hFg (And.intro hFl (And.intro h1 h2))))))))
      clear hlayC hlayR hkeep hl1 hl2 hwy hoy hgy hMy ho hh hM hs hn hFg hFl h1 h2 hsome hnone hrl hcl hra hcb ha hb hu1 hu2 hz1 hz2 hmm
      have tok1 : True := trivial
      go_wp2_with (first
        | (at_lookup; have _t := tok1; refine wpl_look rfl _ _ _ _ rfl rfl rfl HL1.out ?_; clear tok1)
        | (at_lookup; refine wpl_look rfl _ _ _ _ rfl rfl rfl HL2.out ?_)
        | (go_at_call 89; refine HLC.out.mono ?_; rintro e w2 ⟨rfl, hout⟩; obtain ⟨k9, hrow⟩ := HKP.out w2 hout; have HOUT := Lib.hid hout; have HROW := Lib.hid hrow; clear hout hrow)
        | (go_at_call 136; refine (HLR.out _ HROW.out).mono ?_; rintro e w3 ⟨rfl, hout3⟩; have HOUT3 := Lib.hid hout3; clear hout3)
        | fail)
      refine bodyPost_end (results_none rfl _ _ _) rfl ⟨rfl, ?_⟩
      obtain ⟨hoy, hgy, hMy, hs', hn, hFg, hFl, h1, h2⟩ := HFIN.out
      have hc := HOUT.out
      rw [← HW.out] at hc
      exact maps_to hoy hgy hMy hs' hn hFg hFl h1 h2 hc (fun _ => HOUT3.out)

set_option maxRecDepth 100000 in
set_option maxHeartbeats 4000000 in
theorem grid_Del_I {g : Nat} {M : Cls Int} {F : FP} {w : World} (h : GrAt codI 209 g M F w) (hlen : M.length ≤ 1000000) {a b : Int} (ha : (Lit.int .i64 a).wf = true) (hb : (Lit.int .i64 b).wf = true) :
    Calls Tryz.prog 115 #[.pointer (some ⟨g, 0, none⟩), .int .i64 a, .int .i64 b] w fun e w' => e = .returned (.bool (cget M a b).isSome) ∧ GrTo codI 209 g (cdel M a b) F w w' := by
  have hget := grid_Get_I h ha hb
  obtain ⟨r, hr⟩ : ∃ r, r = codI.enc ((cget M a b).getD (0 : Int)) := ⟨_, rfl⟩
  rw [← hr] at hget
  clear hr
  by_cases hsome : (cget M a b).isSome = true
  · rw [hsome] at hget
    obtain ⟨hs, hFg, hFl, hmem⟩ := h
    obtain ⟨u, hu⟩ := Option.isSome_iff_exists.1 hsome
    have hM0 : M ≠ [] := List.ne_nil_of_mem (hs.get.1 hu)
    obtain ⟨B, C, rm, cm, hh, hM, h1, h2⟩ := hmem.resolve_left (fun h => hM0 h.1)
    obtain ⟨k0, k1, k2, f0, f1, f2⟩ := cells3 hh
    have hpos := List.length_pos_iff.2 hM0
    have hra := row_length M a
    have hcb := colU_length M b
    have hr0 : rowOf M a ≠ [] := List.ne_nil_of_mem ((mem_rowOf (x := (b, u))).2 (hs.get.1 hu))
    have hc0 : colU M b ≠ [] := List.ne_nil_of_mem ((mem_colU (x := (a, ()))).2 ⟨u, (mem_colOf (x := (a, u))).2 (hs.get.1 hu)⟩)
    have W1 : IntKind.i64.wrap ((M.length : Int) - 1) = (M.length : Int) - 1 := IntWalk.i64_in _ (by omega)
    obtain ⟨wy, hwy⟩ : ∃ wy, wy = w.setCell ⟨g, 2, none⟩ (.int .i64 ((M.length : Int) - 1)) := ⟨_, rfl⟩
    have hgy : wy.heap[g]? = some (.cells #[.map (some B), .map (some C), .int .i64 ((M.length : Int) - 1)] 209 (0, 0)) := by rw [hwy]; exact (set3 hh).2.2
    have hMy : MapsAt codI B C rm cm M wy := by rw [hwy]; exact hM.set hh
    have hoy : Only F (fun _ => False) w wy := by rw [hwy]; exact only_set hFg
    have hn : (M.length : Int) - 1 = (cdel M a b).length := by have := hs.length_del a b; rw [if_pos hsome] at this; omega
    have htC := take_U hMy.col (a := b) (b := a) hc0 (by omega) hb ha
    rw [colU_del hs a b] at htC
    have htR : ∀ w2, OutAt codI B rm (rowOf M) w2 → Calls Tryz.prog 135 #[.map (some B), .int .i64 a, .int .i64 b] w2 fun e w' => e = .returned (.tuple #[]) ∧ OutTo codI B rm (rowOf (cdel M a b)) w2 w' := fun w2 h2 => by
      have := take_I h2 (a := a) (b := b) hr0 (by omega) ha hb
      rw [rowOf_del hs] at this
      exact this
    have hkeep : ∀ w2, OutTo codU C cm (colU (cdel M a b)) wy w2 → w2.cell? ⟨g, 0, none⟩ = some (.map (some B)) ∧ OutAt codI B rm (rowOf M) w2 := fun w2 ⟨cm', c1, c2, c3⟩ => by
      have hglt : g < wy.heap.size := (Array.getElem?_eq_some_iff.1 hgy).1
      refine ⟨?_, hMy.row.block (fun k hk => c2.block k (hMy.row.lt hk) (hMy.off k hk) (fun h => h))⟩
      rw [World.cell?_of_block (c2.block g hglt (fun hk => hMy.notg hgy (.inr hk) rfl) (fun h => h))]
      exact (cells3 hgy).1
    rw [hwy] at htC hkeep
    have HG := Lib.hid hget
    have HLC := Lib.hid htC
    have HLR := Lib.hid htR
    have HKP := Lib.hid hkeep
    have HW := Lib.hid hwy
    have HFIN := Lib.hid (And.intro hoy (And.intro hgy (And.intro hMy (And.intro (hs.del a b) (And.intro hn (And.intro hFg (And.intro hFl (And.intro (fun k hk => Or.inl (b := w.heap.size ≤ k) (h1 k hk)) (fun k hk => Or.inl (b := w.heap.size ≤ k) (h2 k hk))))))))))
    clear htC htR hkeep hwy hoy hgy hMy hh hM hs hn hFg hFl h1 h2 hra hcb ha hb hget hu hM0 hmem hr0 hc0
    rw [hsome]
    clear hsome
    go_enter Tryz.func115, Tryz.ntmps115
    go_wp2_with (first
      | (go_at_call 134; refine HG.out.mono ?_; rintro e w2 ⟨rfl, rfl⟩)
      | (go_at_call 99; refine HLC.out.mono ?_; rintro e w2 ⟨rfl, hout⟩; obtain ⟨k9, hrow⟩ := HKP.out w2 hout; have HOUT := Lib.hid hout; have HROW := Lib.hid hrow; clear hout hrow)
      | (go_at_call 135; refine (HLR.out _ HROW.out).mono ?_; rintro e w3 ⟨rfl, hout3⟩; have HOUT3 := Lib.hid hout3; clear hout3)
      | fail)
    go_ret
    refine ⟨rfl, ?_⟩
    obtain ⟨hoy, hgy, hMy, hs', hn, hFg, hFl, h1, h2⟩ := HFIN.out
    have hc := HOUT.out
    rw [← HW.out] at hc
    exact maps_to hoy hgy hMy hs' hn hFg hFl h1 h2 hc (fun _ => HOUT3.out)
  · have hnone : (cget M a b).isSome = false := by simpa using hsome
    have hdel : cdel M a b = M := cdel_none (by simpa using hsome)
    rw [hnone] at hget
    rw [hnone, hdel]
    have HG := Lib.hid hget
    have HH := Lib.hid h
    clear hget h hsome hnone hdel ha hb
    go_enter Tryz.func115, Tryz.ntmps115
    go_wp2_with (first
      | (go_at_call 134; refine HG.out.mono ?_; rintro e w2 ⟨rfl, rfl⟩)
      | fail)
    go_ret
    exact ⟨rfl, F, HH.out, fun k hk => .inl hk, Only.refl _ _ _⟩
end Go.Proofs.YtpkamfbjgdmmoaaGreat
end

section
namespace Go.Proofs.YtpkamfbjgdmmoaaGreat
open Go.RowKit Go.Maps
set_option linter.unusedVariables false
set_option linter.unusedSimpArgs false

theorem GrTo.later {β : Type} {c : Cod β} {T : TypeId} {g : Nat} {M : Cls β} {F : FP} {w u w' : World} (hb : Below w.heap.size w u) (h : GrTo c T g M F u w') : GrTo c T g M F w w' := by
  obtain ⟨F', h1, h2, h3⟩ := h
  exact ⟨F', h1, fun k hk => (h2 k hk).imp id (fun h => Nat.le_trans hb.size h), only_trans (Only.of_later hb) h3⟩
theorem OutTo.drew {β : Type} {c : Cod β} {B : Nat} {rm : List (Int × Option Nat)} {rows : Int → List (Int × β)} {w w' : World} (h : OutTo c B rm rows w w') : OutTo c B rm rows w w'.drew := by
  obtain ⟨rm', h1, h2, h3⟩ := h
  exact ⟨rm', h1.block (fun k _ => rfl), only_trans h2 (Only.of_later (Below.refl _ w').drew), h3⟩
def loadSt_V (v : Value) : Sem Value := Instr.loadAt 47 v
theorem loadSt_V_hide (v : Value) : Instr.loadAt 47 v = loadSt_V v := rfl
theorem run_loadSt_V {w : World} {b : Nat} {t : _} (h : w.rangeAt b 0 (balS.f t)) : (loadSt_V (.pointer (some ⟨b, 0, none⟩))).run Tryz.prog w = .ok (.agg (balS.f t).toArray) w := run_loadS (s := balS) h
def loadSt_W (v : Value) : Sem Value := Instr.loadAt 121 v
theorem loadSt_W_hide (v : Value) : Instr.loadAt 121 v = loadSt_W v := rfl
theorem run_loadSt_W {w : World} {b : Nat} {t : _} (h : w.rangeAt b 0 (wgtS.f t)) : (loadSt_W (.pointer (some ⟨b, 0, none⟩))).run Tryz.prog w = .ok (.agg (wgtS.f t).toArray) w := run_loadS (s := wgtS) h
def loadSt_Q (v : Value) : Sem Value := Instr.loadAt 154 v
theorem loadSt_Q_hide (v : Value) : Instr.loadAt 154 v = loadSt_Q v := rfl
theorem run_loadSt_Q {w : World} {b : Nat} {t : _} (h : w.rangeAt b 0 (priS.f t)) : (loadSt_Q (.pointer (some ⟨b, 0, none⟩))).run Tryz.prog w = .ok (.agg (priS.f t).toArray) w := run_loadS (s := priS) h

set_option maxRecDepth 100000 in
set_option maxHeartbeats 4000000 in
attribute [local go_sem ↓] loadSt_V_hide in
theorem grid_Set_V {g : Nat} {M : Cls Bal} {F : FP} {w : World} (h : GrAt balS.cod 178 g M F w) (hlen : M.length ≤ 1000000) {a b : Int} (ha : (Lit.int .i64 a).wf = true) (hb : (Lit.int .i64 b).wf = true) (v : Bal) :
    Calls Tryz.prog 54 #[.pointer (some ⟨g, 0, none⟩), .int .i64 a, .int .i64 b, .agg (balS.f v).toArray] w fun e w' => e = .returned (.tuple #[]) ∧ GrTo balS.cod 178 g (cput M a b v) F w w' := by
  have hu1 : Tryz.prog.underlying 176 = some (.map 3 175) := Tryz.underlying176
  have hu2 : Tryz.prog.underlying 175 = some (.map 3 47) := Tryz.underlying175
  have hz1 : ∀ w, (zeroValue 175).run Tryz.prog w = .ok (codM.enc none) w := fun w => Tryz.zeroValue175 w
  have hz2 : ∀ w, (zeroValue 47).run Tryz.prog w = .ok (balS.cod.enc balS.zero) w := fun w => balS.zeroRun w
  have hmm := @run_makeMap Tryz.prog
  obtain ⟨uw, hu⟩ : ∃ u, u = w.alloc (.cells (balS.f v).toArray 47) := ⟨_, rfl⟩
  have hbu : Below w.heap.size w uw := by rw [hu]; exact (Below.refl _ w).alloc (Nat.le_refl _) _
  obtain ⟨vb, hvb⟩ : ∃ vb, vb = w.heap.size := ⟨_, rfl⟩
  have hvF : ¬ F vb := fun hk => by have := h.2.2.1 vb hk; omega
  have hvl : vb < uw.heap.size := by rw [hu, hvb]; simp
  have hrg : uw.rangeAt vb 0 (balS.f v) := by rw [hu, hvb]; exact atS balS w v
  have h : GrAt balS.cod 178 g M F uw := h.keep (Grow.of_below hbu) (fun k hk => hbu.block k (h.2.2.1 k hk))
  have HBU := Lib.hid hbu
  have HU := Lib.hid (And.intro hu hvb)
  have HV := Lib.hid (And.intro hvF (And.intro hvl hrg))
  clear hu hbu hvb hvF hvl hrg
  obtain ⟨hs, hFg, hFl, hmem⟩ := h
  have hkey : ∃ (mv : Option Nat) (q : Bool), uw.cell? ⟨g, 0, none⟩ = some (.map mv) ∧ (∀ uw, (binOp .eql 176 (.map mv) (.map Option.none)).run Tryz.prog uw = .ok (.bool q) uw) ∧
      ((q = true ∧ M = [] ∧ uw.heap[g]? = some (.cells #[.map none, .map none, .int .i64 0] 178 (0, 0))) ∨
       (q = false ∧ ∃ B C rm cm, uw.heap[g]? = some (.cells #[.map (some B), .map (some C), .int .i64 M.length] 178 (0, 0)) ∧ MapsAt balS.cod B C rm cm M uw ∧ (∀ k, oblk B rm k → F k) ∧ (∀ k, oblk C cm k → F k))) := by
    rcases hmem with ⟨e, hh⟩ | ⟨B, C, rm, cm, hh, h⟩
    · exact ⟨none, true, (cells3 hh).1, fun uw => by kernel_rfl, .inl ⟨rfl, e, hh⟩⟩
    · exact ⟨some B, false, (cells3 hh).1, fun uw => by kernel_rfl, .inr ⟨rfl, B, C, rm, cm, hh, h⟩⟩
  obtain ⟨mv, q, kq, hq, hmem⟩ := hkey
  have HM := Lib.hid hmem
  have HFl := Lib.hid hFl
  have HFg := Lib.hid hFg
  clear hmem hFl hFg
  go_enter Tryz.func54, Tryz.ntmps54
  go_upto_region 1 with fail
  rw [← HU.out.1, ← HU.out.2]
  go_upto_if 16 with fail
  clear hq kq
  go_cut [] (fun wx => ∃ B C rm cm, wx.heap[g]? = some (.cells #[.map (some B), .map (some C), .int .i64 M.length] 178 (0, 0)) ∧ MapsAt balS.cod B C rm cm M wx ∧ Only F (fun _ => False) uw wx ∧ (∀ k, oblk B rm k → F k ∨ uw.heap.size ≤ k) ∧ (∀ k, oblk C cm k → F k ∨ uw.heap.size ≤ k))
  case first =>
    rcases HM.out with ⟨rfl, e, hh⟩ | ⟨rfl, B, C, rm, cm, hh, hM, h1, h2⟩
    · obtain ⟨k0, k1, k2, f0, f1, f2⟩ := cells3 hh
      have hglt : g < uw.heap.size := (Array.getElem?_eq_some_iff.1 hh).1
      have HH := Lib.hid hh
      have HGL := Lib.hid hglt
      have HE := Lib.hid e
      clear hh e
      go_wp2_with fail
      go_meet
      obtain rfl := HE.out
      obtain ⟨v0, hv0⟩ : ∃ v0, v0 = (uw.setCell ⟨g, 0, none⟩ (.map (some uw.heap.size))).setCell ⟨g, 1, none⟩ (.map (some (uw.heap.size + 1))) := ⟨_, rfl⟩
      have hvs : v0.heap.size = uw.heap.size := by rw [hv0]; simp [World.setCell]
      have hg3 : v0.heap[g]? = some (.cells #[.map (some uw.heap.size), .map (some (uw.heap.size + 1)), .int .i64 0] 178 (0, 0)) := by rw [hv0]; exact (set3 (set3 HH.out).1).2.1
      have hov : Only F (fun _ => False) uw v0 := by rw [hv0]; exact only_trans (only_set HFg.out) (only_set HFg.out)
      rw [← hv0]
      clear hv0
      have hr : OutAt balS.cod uw.heap.size [] (rowOf []) ((v0.alloc (.map #[] 0)).alloc (.map #[] 0)) := by
        have := OutAt.made balS.cod v0
        rw [hvs] at this
        exact (this.block (fun k hk => Below.heap_alloc _ _ k (this.lt hk))).congr (fun _ => rfl)
      have hc : OutAt codU (uw.heap.size + 1) [] (colU ([] : Cls Bal)) ((v0.alloc (.map #[] 0)).alloc (.map #[] 0)) := by
        have := OutAt.made codU (v0.alloc (.map #[] 0))
        rw [World.size_alloc, hvs] at this
        exact this.congr (fun _ => rfl)
      have hob : ∀ B k, oblk B [] k → k = B := fun B k hk => hk.elim id (fun ⟨a, ha⟩ => by simp [sget] at ha)
      have hM1 : MapsAt balS.cod uw.heap.size (uw.heap.size + 1) [] [] ([] : Cls Bal) ((v0.alloc (.map #[] 0)).alloc (.map #[] 0)) := ⟨hr, hc, fun k hk hk' => by have := hob _ _ hk; have := hob _ _ hk'; omega⟩
      have hg1 : ((v0.alloc (.map #[] 0)).alloc (.map #[] 0)).heap[g]? = some (.cells #[.map (some uw.heap.size), .map (some (uw.heap.size + 1)), .int .i64 0] 178 (0, 0)) := by
        rw [Below.heap_alloc _ _ g (by simp; omega), Below.heap_alloc _ _ g (by omega)]; exact hg3
      refine ⟨_, _, _, _, hg1, hM1, ?_, fun k hk => .inr ?_, fun k hk => .inr ?_⟩
      · exact only_trans hov (only_trans (only_alloc _) (only_alloc _))
      · have := hob _ _ hk; omega
      · have := hob _ _ hk; omega
    · obtain ⟨k0, k1, k2, f0, f1, f2⟩ := cells3 hh
      have HH := Lib.hid hh
      have HMM := Lib.hid hM
      have H1 := Lib.hid h1
      have H2 := Lib.hid h2
      clear hh hM h1 h2
      go_wp2_with fail
      go_meet
      exact ⟨B, C, rm, cm, HH.out, HMM.out, Only.refl _ _ _, fun k hk => .inl (H1.out k hk), fun k hk => .inl (H2.out k hk)⟩
  case rest =>
    obtain ⟨B, C, rm, cm, hh, hM, ho, h1, h2⟩ := hcut
    have hrg : wc.rangeAt vb 0 (balS.f v) := rangeAt_block HV.out.2.2 (ho.block vb HV.out.2.1 HV.out.1 (fun h => h))
    have HRG := Lib.hid hrg
    obtain ⟨k0, k1, k2, f0, f1, f2⟩ := cells3 hh
    have hrl := outer_length hM.row hs
    have hcl := cols_length hM.col
    have hra := row_length M a
    have hcb := colU_length M b
    have hFl := HFl.out
    have hFg := HFg.out
    obtain ⟨mi, hl1, hl2⟩ : ∃ mi, (Instr.lookup 176 (.map (some B)) (.int .i64 a) false).run Tryz.prog wc = .ok (.map mi) wc ∧
        (Instr.lookup 175 (.map mi) (.int .i64 b) true).run Tryz.prog wc = .ok (.tuple #[balS.cod.enc ((cget M a b).getD balS.zero), .bool (cget M a b).isSome]) wc := by
      have hl := hM.row.map.look (z0 := none) hu1 (hz1 wc) ha
      cases hsg : sget rm a with
      | none =>
        rw [hsg] at hl
        refine ⟨none, hl, ?_⟩
        have hr := hM.row.isNil hsg
        have : cget M a b = none := by rw [cget, hr]; rfl
        rw [this]
        exact nil_look hu2 (hz2 wc) hb true
      | some x =>
        obtain ⟨b', rfl, _, _, h3⟩ := hM.row.at_ a x hsg
        rw [hsg] at hl
        exact ⟨some b', hl, h3.look_ok hu2 (hz2 wc) hb⟩
    obtain ⟨t, ht⟩ : ∃ t, t = (cget M a b).getD balS.zero := ⟨_, rfl⟩
    rw [← ht] at hl2
    obtain ⟨wd, hwd⟩ : ∃ wd, wd = wc.alloc (balS.obj t) := ⟨_, rfl⟩
    have hbd : Below wc.heap.size wc wd := by rw [hwd]; exact (Below.refl _ wc).alloc (Nat.le_refl _) _
    have hh := (hbd.block g (Array.getElem?_eq_some_iff.1 hh).1).trans hh
    have hM : MapsAt balS.cod B C rm cm M wd := hM.block (fun k hk => hbd.block k (hk.elim hM.row.lt hM.col.lt))
    have ho : Only F (fun _ => False) uw wd := only_trans ho (by rw [hwd]; exact only_alloc _)
    obtain ⟨m0, m1, m2, n0, n1, n2⟩ := cells3 hh
    have hrg : wd.rangeAt vb 0 (balS.f v) := rangeAt_block HV.out.2.2 (ho.block vb HV.out.2.1 HV.out.1 (fun h => h))
    have HRG := Lib.hid hrg
    have HWD := Lib.hid hwd
    clear ht hwd hbd
    by_cases hsome : (cget M a b).isSome = true
    · -- the cell was there
      rw [hsome] at hl2
      have hcol : colU (cput M a b v) = colU M := by
        rw [← colU_put hs]
        funext j
        split
        · rename_i e; subst e
          obtain ⟨u, hu⟩ := Option.isSome_iff_exists.1 hsome
          refine ((srt_colU hs j).put _ _).ext (srt_colU hs j) (fun x => ?_)
          rw [mem_sput]
          constructor
          · rintro (e | e)
            · subst e; exact mem_colU.2 ⟨u, mem_colOf.2 (hs.get.1 hu)⟩
            · exact e.1
          · intro hx
            by_cases e : x.1 = a
            · exact .inl (by rw [← e])
            · exact .inr ⟨hx, e⟩
        · rfl
      have hn : (M.length : Int) = (cput M a b v).length := by rw [hs.length_put, if_pos hsome]
      have hlay := lay_V (w := wd.drew) (hM.row.block (fun k _ => rfl)) (by unfold maxLen; omega) (a := a) (b := b) (by unfold maxLen; omega) ha hb v
      rw [rowOf_put hs] at hlay
      have hks : ∀ w2, OutTo balS.cod B rm (rowOf (cput M a b v)) wd.drew w2 → w2.cell? ⟨g, 0, none⟩ = some (.map (some B)) ∧ (loadSt_V (.pointer (some ⟨vb, 0, none⟩))).run Tryz.prog w2 = .ok (.agg (balS.f v).toArray) w2 := fun w2 ⟨rm', r1, r2, r3⟩ => by
        have hgl : g < wd.heap.size := (Array.getElem?_eq_some_iff.1 hh).1
        refine ⟨?_, run_loadSt_V (rangeAt_block (w := wd) hrg (r2.block vb (Nat.lt_of_lt_of_le HV.out.2.1 ho.grow.size) (fun hk => (h1 vb hk).elim HV.out.1 (fun h => by have := HV.out.2.1; omega)) (fun h => h)))⟩
        rw [World.cell?_of_block (r2.block g hgl (fun hk => hM.notg hh (.inl hk) rfl) (fun h => h))]
        exact (cells3 hh).1
      have HKS := Lib.hid hks
      have KD := Lib.hid (show wd.drew.cell? ⟨g, 0, none⟩ = some (.map (some B)) ∧ (loadSt_V (.pointer (some ⟨vb, 0, none⟩))).run Tryz.prog wd.drew = .ok (.agg (balS.f v).toArray) wd.drew from ⟨(cells3 hh).1, run_loadSt_V hrg⟩)
      clear hks
      have HLAY := Lib.hid hlay
      have HL1 := Lib.hid hl1
      have HL2 := Lib.hid hl2
      have HFIN := Lib.hid (And.intro (show Only F (fun _ => False) uw wd.drew from only_trans ho (Only.of_later (Below.refl _ wd).drew)) (And.intro (show wd.drew.heap[g]? = _ from hh) (And.intro (show MapsAt balS.cod B C rm cm M wd.drew from hM.block (fun k _ => rfl)) (And.intro (hs.put a b v) (And.intro hn (And.intro hFg (And.intro hFl (And.intro h1 (And.intro h2 hcol)))))))))
      clear hrg hlay hl1 hl2 ho hh hM hs hn hFg hFl h1 h2 hcol hsome hrl hcl hra hcb hlen ha hb hu1 hu2 hz1 hz2 hmm
      have tok1 : True := trivial
      go_wp2_with (first
        | (at_lookup; have _t := tok1; refine wpl_look rfl _ _ _ _ rfl rfl rfl HL1.out ?_; clear tok1)
        | (at_lookup; refine wpl_look rfl _ _ _ _ rfl rfl rfl HL2.out ?_)
        | (refine wpl_allocS (s := balS) rfl rfl rfl ?_)
        | (refine wpl_storeS (s := balS) (t := t) (b := wc.heap.size) _ _ rfl rfl rfl rfl rfl (World.alloc_heap_new wc _) (zeroS balS) ?_; rw [newS, ← HWD.out])
        | fail)
      go_region_held3 (fun w' => w'.cell? ⟨g, 0, none⟩ = some (.map (some B)) ∧ (loadSt_V (.pointer (some ⟨vb, 0, none⟩))).run Tryz.prog w' = .ok (.agg (balS.f v).toArray) w') (first | exact KD.out | exact K2.out) (first
        | (go_at_call 90; refine HLAY.out.mono ?_; rintro e w2 ⟨rfl, hout⟩; have K2 := Lib.hid (HKS.out w2 hout); have HOUT := Lib.hid hout; clear hout)
        | fail)
      all_goals go_wp2_with fail
      refine bodyPost_end (results_none rfl _ _ _) rfl ⟨rfl, GrTo.later HBU.out ?_⟩
      obtain ⟨ho, hh, hM, hs', hn, hFg, hFl, h1, h2, hcol⟩ := HFIN.out
      exact row_to ho hh hM hs' hn hFg hFl h1 h2 hcol HOUT.out
    · -- it was not
      have hnone : (cget M a b).isSome = false := by simpa using hsome
      rw [hnone] at hl2
      have W1 : IntKind.i64.wrap ((M.length : Int) + 1) = (M.length : Int) + 1 := IntWalk.i64_in _ (by omega)
      obtain ⟨wy, hwy⟩ : ∃ wy, wy = wd.setCell ⟨g, 2, none⟩ (.int .i64 ((M.length : Int) + 1)) := ⟨_, rfl⟩
      have hgy : wy.heap[g]? = some (.cells #[.map (some B), .map (some C), .int .i64 ((M.length : Int) + 1)] 178 (0, 0)) := by rw [hwy]; exact (set3 hh).2.2
      have hMy : MapsAt balS.cod B C rm cm M wy := by rw [hwy]; exact hM.set hh
      have hoy : Only F (fun _ => False) uw wy := only_trans ho (by rw [hwy]; exact only_set hFg)
      have hn : (M.length : Int) + 1 = (cput M a b v).length := by rw [hs.length_put, if_neg hsome]; simp
      have hlayC := lay_U hMy.col (by unfold maxLen; omega) (a := b) (b := a) (by unfold maxLen; omega) hb ha ()
      rw [colU_put hs a b v] at hlayC
      have hlayR : ∀ w2, OutAt balS.cod B rm (rowOf M) w2 → Calls Tryz.prog 90 #[.map (some B), .int .i64 a, .int .i64 b, .agg (balS.f v).toArray] w2 fun e w' => e = .returned (.tuple #[]) ∧ OutTo balS.cod B rm (rowOf (cput M a b v)) w2 w' := fun w2 h2 => by
        have := lay_V h2 (by unfold maxLen; omega) (a := a) (b := b) (by unfold maxLen; omega) ha hb v
        rw [rowOf_put hs] at this
        exact this
      have hkeep : ∀ w2, OutTo codU C cm (colU (cput M a b v)) wy w2 → w2.cell? ⟨g, 0, none⟩ = some (.map (some B)) ∧ OutAt balS.cod B rm (rowOf M) w2 ∧ w2.rangeAt vb 0 (balS.f v) := fun w2 ⟨cm', c1, c2, c3⟩ => by
        have hglt : g < wy.heap.size := (Array.getElem?_eq_some_iff.1 hgy).1
        refine ⟨?_, hMy.row.block (fun k hk => c2.block k (hMy.row.lt hk) (hMy.off k hk) (fun h => h)), rangeAt_block (w := wy) (rangeAt_block HV.out.2.2 (hoy.block vb HV.out.2.1 HV.out.1 (fun h => h))) (c2.block vb (Nat.lt_of_lt_of_le HV.out.2.1 hoy.grow.size) (fun hk => (h2 vb hk).elim HV.out.1 (fun h => by have := HV.out.2.1; omega)) (fun h => h))⟩
        rw [World.cell?_of_block (c2.block g hglt (fun hk => hMy.notg hgy (.inr hk) rfl) (fun h => h))]
        exact (cells3 hgy).1
      rw [hwy] at hlayC hkeep
      have hke : ∀ w2, OutTo codU C cm (colU (cput M a b v)) (wd.setCell ⟨g, 2, none⟩ (.int .i64 ((M.length : Int) + 1))) w2 → (w2.cell? ⟨g, 0, none⟩ = some (.map (some B)) ∧ (loadSt_V (.pointer (some ⟨vb, 0, none⟩))).run Tryz.prog w2 = .ok (.agg (balS.f v).toArray) w2) ∧ ∀ w3, OutTo balS.cod B rm (rowOf (cput M a b v)) w2 w3 → w3.cell? ⟨g, 0, none⟩ = some (.map (some B)) ∧ (loadSt_V (.pointer (some ⟨vb, 0, none⟩))).run Tryz.prog w3 = .ok (.agg (balS.f v).toArray) w3 := fun w2 ho2 => by
        obtain ⟨e1, e2, e3⟩ := hkeep w2 ho2
        refine ⟨⟨e1, run_loadSt_V e3⟩, fun w3 ⟨rm', r1, r2, r3⟩ => ?_⟩
        have hsz : wd.heap.size ≤ w2.heap.size := by obtain ⟨_, _, q, _⟩ := ho2; have := q.grow.size; simpa [World.setCell] using this
        have hgl : g < wd.heap.size := (Array.getElem?_eq_some_iff.1 hh).1
        refine ⟨?_, run_loadSt_V (rangeAt_block e3 (r2.block vb (by have := ho.grow.size; have := HV.out.2.1; omega) (fun hk => (h1 vb hk).elim HV.out.1 (fun h => by have := HV.out.2.1; omega)) (fun h => h)))⟩
        rw [World.cell?_of_block (r2.block g (by omega) (fun hk => hM.notg hh (.inl hk) rfl) (fun h => h))]
        exact e1
      have HKE := Lib.hid hke
      clear hke
      have HLC := Lib.hid hlayC
      have HLR := Lib.hid hlayR
      have HKP := Lib.hid hkeep
      have HL1 := Lib.hid hl1
      have HL2 := Lib.hid hl2
      have HW := Lib.hid hwy
      have HFIN := Lib.hid (And.intro hoy (And.intro hgy (And.intro hMy (And.intro (hs.put a b v) (And.intro hn (And.intro hFg (And.intro hFl (And.intro h1 h2))))))))
      clear hrg hlayC hlayR hkeep hl1 hl2 hwy hoy hgy hMy ho hh hM hs hn hFg hFl h1 h2 hsome hnone hrl hcl hra hcb ha hb hu1 hu2 hz1 hz2 hmm
      have tok1 : True := trivial
      go_wp2_with (first
        | (at_lookup; have _t := tok1; refine wpl_look rfl _ _ _ _ rfl rfl rfl HL1.out ?_; clear tok1)
        | (at_lookup; refine wpl_look rfl _ _ _ _ rfl rfl rfl HL2.out ?_)
        | (refine wpl_allocS (s := balS) rfl rfl rfl ?_)
        | (refine wpl_storeS (s := balS) (t := t) (b := wc.heap.size) _ _ rfl rfl rfl rfl rfl (World.alloc_heap_new wc _) (zeroS balS) ?_; rw [newS, ← HWD.out])
        | (go_at_call 89; refine HLC.out.mono ?_; rintro e w2 ⟨rfl, hout⟩; obtain ⟨k9, hrow, hrg2⟩ := HKP.out w2 hout; have HRG2 := Lib.hid hrg2; clear hrg2; have HOUT := Lib.hid hout; have HROW := Lib.hid hrow; clear hout hrow)
        | fail)
      go_region_held3 (fun w' => w'.cell? ⟨g, 0, none⟩ = some (.map (some B)) ∧ (loadSt_V (.pointer (some ⟨vb, 0, none⟩))).run Tryz.prog w' = .ok (.agg (balS.f v).toArray) w') (first | exact HKE.out w2.drew HOUT.out.drew |>.1 | exact K3.out) (first
        | (go_at_call 90; refine (HLR.out _ (HKP.out _ HOUT.out.drew).2.1).mono ?_; rintro e w3 ⟨rfl, hout3⟩; have K3 := Lib.hid ((HKE.out w2.drew HOUT.out.drew).2 w3 hout3); have HOUT3 := Lib.hid hout3; clear hout3)
        | fail)
      all_goals go_wp2_with fail
      refine bodyPost_end (results_none rfl _ _ _) rfl ⟨rfl, GrTo.later HBU.out ?_⟩
      obtain ⟨hoy, hgy, hMy, hs', hn, hFg, hFl, h1, h2⟩ := HFIN.out
      have hc := HOUT.out
      rw [← HW.out] at hc
      have hc := hc.drew
      exact maps_to hoy hgy hMy hs' hn hFg hFl h1 h2 hc (fun _ => HOUT3.out)

set_option maxRecDepth 100000 in
set_option maxHeartbeats 4000000 in
theorem grid_Del_V {g : Nat} {M : Cls Bal} {F : FP} {w : World} (h : GrAt balS.cod 178 g M F w) (hlen : M.length ≤ 1000000) {a b : Int} (ha : (Lit.int .i64 a).wf = true) (hb : (Lit.int .i64 b).wf = true) :
    Calls Tryz.prog 62 #[.pointer (some ⟨g, 0, none⟩), .int .i64 a, .int .i64 b] w fun e w' => e = .returned (.bool (cget M a b).isSome) ∧ GrTo balS.cod 178 g (cdel M a b) F w w' := by
  have hget := grid_GetE_V h ha hb
  obtain ⟨t, ht⟩ : ∃ t, t = (cget M a b).getD balS.zero := ⟨_, rfl⟩
  rw [← ht] at hget
  obtain ⟨ug, hug⟩ : ∃ u, u = balS.getW w t := ⟨_, rfl⟩
  rw [← hug] at hget
  obtain ⟨uw, hu⟩ : ∃ u, u = ug.alloc (balS.obj t) := ⟨_, rfl⟩
  have hbg : Below w.heap.size w ug := by rw [hug]; exact balS.getW_below w t
  have hbu : Below w.heap.size w uw := by rw [hu]; exact hbg.alloc hbg.size _
  have h : GrAt balS.cod 178 g M F uw := h.keep (Grow.of_below hbu) (fun k hk => hbu.block k (h.2.2.1 k hk))
  have HBU := Lib.hid hbu
  have HUW := Lib.hid hu
  clear ht hug hu hbu hbg
  by_cases hsome : (cget M a b).isSome = true
  · rw [hsome] at hget
    obtain ⟨hs, hFg, hFl, hmem⟩ := h
    obtain ⟨u, hu⟩ := Option.isSome_iff_exists.1 hsome
    have hM0 : M ≠ [] := List.ne_nil_of_mem (hs.get.1 hu)
    obtain ⟨B, C, rm, cm, hh, hM, h1, h2⟩ := hmem.resolve_left (fun h => hM0 h.1)
    obtain ⟨k0, k1, k2, f0, f1, f2⟩ := cells3 hh
    have hpos := List.length_pos_iff.2 hM0
    have hra := row_length M a
    have hcb := colU_length M b
    have hr0 : rowOf M a ≠ [] := List.ne_nil_of_mem ((mem_rowOf (x := (b, u))).2 (hs.get.1 hu))
    have hc0 : colU M b ≠ [] := List.ne_nil_of_mem ((mem_colU (x := (a, ()))).2 ⟨u, (mem_colOf (x := (a, u))).2 (hs.get.1 hu)⟩)
    have W1 : IntKind.i64.wrap ((M.length : Int) - 1) = (M.length : Int) - 1 := IntWalk.i64_in _ (by omega)
    obtain ⟨wy, hwy⟩ : ∃ wy, wy = uw.setCell ⟨g, 2, none⟩ (.int .i64 ((M.length : Int) - 1)) := ⟨_, rfl⟩
    have hgy : wy.heap[g]? = some (.cells #[.map (some B), .map (some C), .int .i64 ((M.length : Int) - 1)] 178 (0, 0)) := by rw [hwy]; exact (set3 hh).2.2
    have hMy : MapsAt balS.cod B C rm cm M wy := by rw [hwy]; exact hM.set hh
    have hoy : Only F (fun _ => False) uw wy := by rw [hwy]; exact only_set hFg
    have hn : (M.length : Int) - 1 = (cdel M a b).length := by have := hs.length_del a b; rw [if_pos hsome] at this; omega
    have htC := take_U hMy.col (a := b) (b := a) hc0 (by omega) hb ha
    rw [colU_del hs a b] at htC
    have htR : ∀ w2, OutAt balS.cod B rm (rowOf M) w2 → Calls Tryz.prog 100 #[.map (some B), .int .i64 a, .int .i64 b] w2 fun e w' => e = .returned (.tuple #[]) ∧ OutTo balS.cod B rm (rowOf (cdel M a b)) w2 w' := fun w2 h2 => by
      have := take_V h2 (a := a) (b := b) hr0 (by omega) ha hb
      rw [rowOf_del hs] at this
      exact this
    have hkeep : ∀ w2, OutTo codU C cm (colU (cdel M a b)) wy w2 → w2.cell? ⟨g, 0, none⟩ = some (.map (some B)) ∧ OutAt balS.cod B rm (rowOf M) w2 := fun w2 ⟨cm', c1, c2, c3⟩ => by
      have hglt : g < wy.heap.size := (Array.getElem?_eq_some_iff.1 hgy).1
      refine ⟨?_, hMy.row.block (fun k hk => c2.block k (hMy.row.lt hk) (hMy.off k hk) (fun h => h))⟩
      rw [World.cell?_of_block (c2.block g hglt (fun hk => hMy.notg hgy (.inr hk) rfl) (fun h => h))]
      exact (cells3 hgy).1
    rw [hwy] at htC hkeep
    have HG := Lib.hid hget
    have HLC := Lib.hid htC
    have HLR := Lib.hid htR
    have HKP := Lib.hid hkeep
    have HW := Lib.hid hwy
    have HFIN := Lib.hid (And.intro hoy (And.intro hgy (And.intro hMy (And.intro (hs.del a b) (And.intro hn (And.intro hFg (And.intro hFl (And.intro (fun k hk => Or.inl (b := uw.heap.size ≤ k) (h1 k hk)) (fun k hk => Or.inl (b := uw.heap.size ≤ k) (h2 k hk))))))))))
    clear htC htR hkeep hwy hoy hgy hMy hh hM hs hn hFg hFl h1 h2 hra hcb ha hb hget hu hM0 hmem hr0 hc0
    rw [hsome]
    clear hsome
    go_enter Tryz.func62, Tryz.ntmps62
    go_wp2_with (first
      | (go_at_call 45; refine HG.out.mono ?_; rintro e w2 ⟨rfl, hw2⟩; rw [hw2]; clear hw2 w2)
      | (refine wpl_allocS (s := balS) rfl rfl rfl ?_)
      | (refine wpl_storeS (s := balS) (t := t) (b := ug.heap.size) _ _ rfl rfl rfl rfl rfl (World.alloc_heap_new ug _) (zeroS balS) ?_; rw [newS, ← HUW.out])
      | (go_at_call 99; refine HLC.out.mono ?_; rintro e w2 ⟨rfl, hout⟩; obtain ⟨k9, hrow⟩ := HKP.out w2 hout; have HOUT := Lib.hid hout; have HROW := Lib.hid hrow; clear hout hrow)
      | (go_at_call 100; refine (HLR.out _ HROW.out).mono ?_; rintro e w3 ⟨rfl, hout3⟩; have HOUT3 := Lib.hid hout3; clear hout3)
      | fail)
    go_ret
    refine ⟨rfl, ?_⟩
    obtain ⟨hoy, hgy, hMy, hs', hn, hFg, hFl, h1, h2⟩ := HFIN.out
    have hc := HOUT.out
    rw [← HW.out] at hc
    exact GrTo.later HBU.out (maps_to hoy hgy hMy hs' hn hFg hFl h1 h2 hc (fun _ => HOUT3.out))
  · have hnone : (cget M a b).isSome = false := by simpa using hsome
    have hdel : cdel M a b = M := cdel_none (by simpa using hsome)
    rw [hnone] at hget
    rw [hnone, hdel]
    have HG := Lib.hid hget
    have HH := Lib.hid h
    clear hget h hsome hnone hdel ha hb
    go_enter Tryz.func62, Tryz.ntmps62
    go_wp2_with (first
      | (go_at_call 45; refine HG.out.mono ?_; rintro e w2 ⟨rfl, hw2⟩; rw [hw2]; clear hw2 w2)
      | (refine wpl_allocS (s := balS) rfl rfl rfl ?_)
      | (refine wpl_storeS (s := balS) (t := t) (b := ug.heap.size) _ _ rfl rfl rfl rfl rfl (World.alloc_heap_new ug _) (zeroS balS) ?_; rw [newS, ← HUW.out])
      | fail)
    go_ret
    exact ⟨rfl, GrTo.later HBU.out ⟨F, HH.out, fun k hk => .inl hk, Only.refl _ _ _⟩⟩

set_option maxRecDepth 100000 in
set_option maxHeartbeats 4000000 in
attribute [local go_sem ↓] loadSt_Q_hide in
theorem grid_Set_Q {g : Nat} {M : Cls Wgt} {F : FP} {w : World} (h : GrAt priS.cod 215 g M F w) (hlen : M.length ≤ 1000000) {a b : Int} (ha : (Lit.int .i64 a).wf = true) (hb : (Lit.int .i64 b).wf = true) (v : Wgt) :
    Calls Tryz.prog 102 #[.pointer (some ⟨g, 0, none⟩), .int .i64 a, .int .i64 b, .agg (priS.f v).toArray] w fun e w' => e = .returned (.tuple #[]) ∧ GrTo priS.cod 215 g (cput M a b v) F w w' := by
  have hu1 : Tryz.prog.underlying 213 = some (.map 3 232) := Tryz.underlying213
  have hu2 : Tryz.prog.underlying 232 = some (.map 3 154) := Tryz.underlying232
  have hz1 : ∀ w, (zeroValue 232).run Tryz.prog w = .ok (codM.enc none) w := fun w => Tryz.zeroValue232 w
  have hz2 : ∀ w, (zeroValue 154).run Tryz.prog w = .ok (priS.cod.enc priS.zero) w := fun w => priS.zeroRun w
  have hmm := @run_makeMap Tryz.prog
  obtain ⟨uw, hu⟩ : ∃ u, u = w.alloc (.cells (priS.f v).toArray 154) := ⟨_, rfl⟩
  have hbu : Below w.heap.size w uw := by rw [hu]; exact (Below.refl _ w).alloc (Nat.le_refl _) _
  obtain ⟨vb, hvb⟩ : ∃ vb, vb = w.heap.size := ⟨_, rfl⟩
  have hvF : ¬ F vb := fun hk => by have := h.2.2.1 vb hk; omega
  have hvl : vb < uw.heap.size := by rw [hu, hvb]; simp
  have hrg : uw.rangeAt vb 0 (priS.f v) := by rw [hu, hvb]; exact atS priS w v
  have h : GrAt priS.cod 215 g M F uw := h.keep (Grow.of_below hbu) (fun k hk => hbu.block k (h.2.2.1 k hk))
  have HBU := Lib.hid hbu
  have HU := Lib.hid (And.intro hu hvb)
  have HV := Lib.hid (And.intro hvF (And.intro hvl hrg))
  clear hu hbu hvb hvF hvl hrg
  obtain ⟨hs, hFg, hFl, hmem⟩ := h
  have hkey : ∃ (mv : Option Nat) (q : Bool), uw.cell? ⟨g, 0, none⟩ = some (.map mv) ∧ (∀ uw, (binOp .eql 213 (.map mv) (.map Option.none)).run Tryz.prog uw = .ok (.bool q) uw) ∧
      ((q = true ∧ M = [] ∧ uw.heap[g]? = some (.cells #[.map none, .map none, .int .i64 0] 215 (0, 0))) ∨
       (q = false ∧ ∃ B C rm cm, uw.heap[g]? = some (.cells #[.map (some B), .map (some C), .int .i64 M.length] 215 (0, 0)) ∧ MapsAt priS.cod B C rm cm M uw ∧ (∀ k, oblk B rm k → F k) ∧ (∀ k, oblk C cm k → F k))) := by
    rcases hmem with ⟨e, hh⟩ | ⟨B, C, rm, cm, hh, h⟩
    · exact ⟨none, true, (cells3 hh).1, fun uw => by kernel_rfl, .inl ⟨rfl, e, hh⟩⟩
    · exact ⟨some B, false, (cells3 hh).1, fun uw => by kernel_rfl, .inr ⟨rfl, B, C, rm, cm, hh, h⟩⟩
  obtain ⟨mv, q, kq, hq, hmem⟩ := hkey
  have HM := Lib.hid hmem
  have HFl := Lib.hid hFl
  have HFg := Lib.hid hFg
  clear hmem hFl hFg
  go_enter Tryz.func102, Tryz.ntmps102
  go_upto_region 1 with fail
  rw [← HU.out.1, ← HU.out.2]
  go_upto_if 16 with fail
  clear hq kq
  go_cut [] (fun wx => ∃ B C rm cm, wx.heap[g]? = some (.cells #[.map (some B), .map (some C), .int .i64 M.length] 215 (0, 0)) ∧ MapsAt priS.cod B C rm cm M wx ∧ Only F (fun _ => False) uw wx ∧ (∀ k, oblk B rm k → F k ∨ uw.heap.size ≤ k) ∧ (∀ k, oblk C cm k → F k ∨ uw.heap.size ≤ k))
  case first =>
    rcases HM.out with ⟨rfl, e, hh⟩ | ⟨rfl, B, C, rm, cm, hh, hM, h1, h2⟩
    · obtain ⟨k0, k1, k2, f0, f1, f2⟩ := cells3 hh
      have hglt : g < uw.heap.size := (Array.getElem?_eq_some_iff.1 hh).1
      have HH := Lib.hid hh
      have HGL := Lib.hid hglt
      have HE := Lib.hid e
      clear hh e
      go_wp2_with fail
      go_meet
      obtain rfl := HE.out
      obtain ⟨v0, hv0⟩ : ∃ v0, v0 = (uw.setCell ⟨g, 0, none⟩ (.map (some uw.heap.size))).setCell ⟨g, 1, none⟩ (.map (some (uw.heap.size + 1))) := ⟨_, rfl⟩
      have hvs : v0.heap.size = uw.heap.size := by rw [hv0]; simp [World.setCell]
      have hg3 : v0.heap[g]? = some (.cells #[.map (some uw.heap.size), .map (some (uw.heap.size + 1)), .int .i64 0] 215 (0, 0)) := by rw [hv0]; exact (set3 (set3 HH.out).1).2.1
      have hov : Only F (fun _ => False) uw v0 := by rw [hv0]; exact only_trans (only_set HFg.out) (only_set HFg.out)
      rw [← hv0]
      clear hv0
      have hr : OutAt priS.cod uw.heap.size [] (rowOf []) ((v0.alloc (.map #[] 0)).alloc (.map #[] 0)) := by
        have := OutAt.made priS.cod v0
        rw [hvs] at this
        exact (this.block (fun k hk => Below.heap_alloc _ _ k (this.lt hk))).congr (fun _ => rfl)
      have hc : OutAt codU (uw.heap.size + 1) [] (colU ([] : Cls Wgt)) ((v0.alloc (.map #[] 0)).alloc (.map #[] 0)) := by
        have := OutAt.made codU (v0.alloc (.map #[] 0))
        rw [World.size_alloc, hvs] at this
        exact this.congr (fun _ => rfl)
      have hob : ∀ B k, oblk B [] k → k = B := fun B k hk => hk.elim id (fun ⟨a, ha⟩ => by simp [sget] at ha)
      have hM1 : MapsAt priS.cod uw.heap.size (uw.heap.size + 1) [] [] ([] : Cls Wgt) ((v0.alloc (.map #[] 0)).alloc (.map #[] 0)) := ⟨hr, hc, fun k hk hk' => by have := hob _ _ hk; have := hob _ _ hk'; omega⟩
      have hg1 : ((v0.alloc (.map #[] 0)).alloc (.map #[] 0)).heap[g]? = some (.cells #[.map (some uw.heap.size), .map (some (uw.heap.size + 1)), .int .i64 0] 215 (0, 0)) := by
        rw [Below.heap_alloc _ _ g (by simp; omega), Below.heap_alloc _ _ g (by omega)]; exact hg3
      refine ⟨_, _, _, _, hg1, hM1, ?_, fun k hk => .inr ?_, fun k hk => .inr ?_⟩
      · exact only_trans hov (only_trans (only_alloc _) (only_alloc _))
      · have := hob _ _ hk; omega
      · have := hob _ _ hk; omega
    · obtain ⟨k0, k1, k2, f0, f1, f2⟩ := cells3 hh
      have HH := Lib.hid hh
      have HMM := Lib.hid hM
      have H1 := Lib.hid h1
      have H2 := Lib.hid h2
      clear hh hM h1 h2
      go_wp2_with fail
      go_meet
      exact ⟨B, C, rm, cm, HH.out, HMM.out, Only.refl _ _ _, fun k hk => .inl (H1.out k hk), fun k hk => .inl (H2.out k hk)⟩
  case rest =>
    obtain ⟨B, C, rm, cm, hh, hM, ho, h1, h2⟩ := hcut
    have hrg : wc.rangeAt vb 0 (priS.f v) := rangeAt_block HV.out.2.2 (ho.block vb HV.out.2.1 HV.out.1 (fun h => h))
    have HRG := Lib.hid hrg
    obtain ⟨k0, k1, k2, f0, f1, f2⟩ := cells3 hh
    have hrl := outer_length hM.row hs
    have hcl := cols_length hM.col
    have hra := row_length M a
    have hcb := colU_length M b
    have hFl := HFl.out
    have hFg := HFg.out
    obtain ⟨mi, hl1, hl2⟩ : ∃ mi, (Instr.lookup 213 (.map (some B)) (.int .i64 a) false).run Tryz.prog wc = .ok (.map mi) wc ∧
        (Instr.lookup 232 (.map mi) (.int .i64 b) true).run Tryz.prog wc = .ok (.tuple #[priS.cod.enc ((cget M a b).getD priS.zero), .bool (cget M a b).isSome]) wc := by
      have hl := hM.row.map.look (z0 := none) hu1 (hz1 wc) ha
      cases hsg : sget rm a with
      | none =>
        rw [hsg] at hl
        refine ⟨none, hl, ?_⟩
        have hr := hM.row.isNil hsg
        have : cget M a b = none := by rw [cget, hr]; rfl
        rw [this]
        exact nil_look hu2 (hz2 wc) hb true
      | some x =>
        obtain ⟨b', rfl, _, _, h3⟩ := hM.row.at_ a x hsg
        rw [hsg] at hl
        exact ⟨some b', hl, h3.look_ok hu2 (hz2 wc) hb⟩
    obtain ⟨t, ht⟩ : ∃ t, t = (cget M a b).getD priS.zero := ⟨_, rfl⟩
    rw [← ht] at hl2
    obtain ⟨wd, hwd⟩ : ∃ wd, wd = wc.alloc (priS.obj t) := ⟨_, rfl⟩
    have hbd : Below wc.heap.size wc wd := by rw [hwd]; exact (Below.refl _ wc).alloc (Nat.le_refl _) _
    have hh := (hbd.block g (Array.getElem?_eq_some_iff.1 hh).1).trans hh
    have hM : MapsAt priS.cod B C rm cm M wd := hM.block (fun k hk => hbd.block k (hk.elim hM.row.lt hM.col.lt))
    have ho : Only F (fun _ => False) uw wd := only_trans ho (by rw [hwd]; exact only_alloc _)
    obtain ⟨m0, m1, m2, n0, n1, n2⟩ := cells3 hh
    have hrg : wd.rangeAt vb 0 (priS.f v) := rangeAt_block HV.out.2.2 (ho.block vb HV.out.2.1 HV.out.1 (fun h => h))
    have HRG := Lib.hid hrg
    have HWD := Lib.hid hwd
    clear ht hwd hbd
    by_cases hsome : (cget M a b).isSome = true
    · -- the cell was there
      rw [hsome] at hl2
      have hcol : colU (cput M a b v) = colU M := by
        rw [← colU_put hs]
        funext j
        split
        · rename_i e; subst e
          obtain ⟨u, hu⟩ := Option.isSome_iff_exists.1 hsome
          refine ((srt_colU hs j).put _ _).ext (srt_colU hs j) (fun x => ?_)
          rw [mem_sput]
          constructor
          · rintro (e | e)
            · subst e; exact mem_colU.2 ⟨u, mem_colOf.2 (hs.get.1 hu)⟩
            · exact e.1
          · intro hx
            by_cases e : x.1 = a
            · exact .inl (by rw [← e])
            · exact .inr ⟨hx, e⟩
        · rfl
      have hn : (M.length : Int) = (cput M a b v).length := by rw [hs.length_put, if_pos hsome]
      have hlay := lay_Q (w := wd.drew) (hM.row.block (fun k _ => rfl)) (by unfold maxLen; omega) (a := a) (b := b) (by unfold maxLen; omega) ha hb v
      rw [rowOf_put hs] at hlay
      have hks : ∀ w2, OutTo priS.cod B rm (rowOf (cput M a b v)) wd.drew w2 → w2.cell? ⟨g, 0, none⟩ = some (.map (some B)) ∧ (loadSt_Q (.pointer (some ⟨vb, 0, none⟩))).run Tryz.prog w2 = .ok (.agg (priS.f v).toArray) w2 := fun w2 ⟨rm', r1, r2, r3⟩ => by
        have hgl : g < wd.heap.size := (Array.getElem?_eq_some_iff.1 hh).1
        refine ⟨?_, run_loadSt_Q (rangeAt_block (w := wd) hrg (r2.block vb (Nat.lt_of_lt_of_le HV.out.2.1 ho.grow.size) (fun hk => (h1 vb hk).elim HV.out.1 (fun h => by have := HV.out.2.1; omega)) (fun h => h)))⟩
        rw [World.cell?_of_block (r2.block g hgl (fun hk => hM.notg hh (.inl hk) rfl) (fun h => h))]
        exact (cells3 hh).1
      have HKS := Lib.hid hks
      have KD := Lib.hid (show wd.drew.cell? ⟨g, 0, none⟩ = some (.map (some B)) ∧ (loadSt_Q (.pointer (some ⟨vb, 0, none⟩))).run Tryz.prog wd.drew = .ok (.agg (priS.f v).toArray) wd.drew from ⟨(cells3 hh).1, run_loadSt_Q hrg⟩)
      clear hks
      have HLAY := Lib.hid hlay
      have HL1 := Lib.hid hl1
      have HL2 := Lib.hid hl2
      have HFIN := Lib.hid (And.intro (show Only F (fun _ => False) uw wd.drew from only_trans ho (Only.of_later (Below.refl _ wd).drew)) (And.intro (show wd.drew.heap[g]? = _ from hh) (And.intro (show MapsAt priS.cod B C rm cm M wd.drew from hM.block (fun k _ => rfl)) (And.intro (hs.put a b v) (And.intro hn (And.intro hFg (And.intro hFl (And.intro h1 (And.intro h2 hcol)))))))))
      clear hrg hlay hl1 hl2 ho hh hM hs hn hFg hFl h1 h2 hcol hsome hrl hcl hra hcb hlen ha hb hu1 hu2 hz1 hz2 hmm
      have tok1 : True := trivial
      go_wp2_with (first
        | (at_lookup; have _t := tok1; refine wpl_look rfl _ _ _ _ rfl rfl rfl HL1.out ?_; clear tok1)
        | (at_lookup; refine wpl_look rfl _ _ _ _ rfl rfl rfl HL2.out ?_)
        | (refine wpl_allocS (s := priS) rfl rfl rfl ?_)
        | (refine wpl_storeS (s := priS) (t := t) (b := wc.heap.size) _ _ rfl rfl rfl rfl rfl (World.alloc_heap_new wc _) (zeroS priS) ?_; rw [newS, ← HWD.out])
        | fail)
      go_region_held3 (fun w' => w'.cell? ⟨g, 0, none⟩ = some (.map (some B)) ∧ (loadSt_Q (.pointer (some ⟨vb, 0, none⟩))).run Tryz.prog w' = .ok (.agg (priS.f v).toArray) w') (first | exact KD.out | exact K2.out) (first
        | (go_at_call 126; refine HLAY.out.mono ?_; rintro e w2 ⟨rfl, hout⟩; have K2 := Lib.hid (HKS.out w2 hout); have HOUT := Lib.hid hout; clear hout)
        | fail)
      all_goals go_wp2_with fail
      refine bodyPost_end (results_none rfl _ _ _) rfl ⟨rfl, GrTo.later HBU.out ?_⟩
      obtain ⟨ho, hh, hM, hs', hn, hFg, hFl, h1, h2, hcol⟩ := HFIN.out
      exact row_to ho hh hM hs' hn hFg hFl h1 h2 hcol HOUT.out
    · -- it was not
      have hnone : (cget M a b).isSome = false := by simpa using hsome
      rw [hnone] at hl2
      have W1 : IntKind.i64.wrap ((M.length : Int) + 1) = (M.length : Int) + 1 := IntWalk.i64_in _ (by omega)
      obtain ⟨wy, hwy⟩ : ∃ wy, wy = wd.setCell ⟨g, 2, none⟩ (.int .i64 ((M.length : Int) + 1)) := ⟨_, rfl⟩
      have hgy : wy.heap[g]? = some (.cells #[.map (some B), .map (some C), .int .i64 ((M.length : Int) + 1)] 215 (0, 0)) := by rw [hwy]; exact (set3 hh).2.2
      have hMy : MapsAt priS.cod B C rm cm M wy := by rw [hwy]; exact hM.set hh
      have hoy : Only F (fun _ => False) uw wy := only_trans ho (by rw [hwy]; exact only_set hFg)
      have hn : (M.length : Int) + 1 = (cput M a b v).length := by rw [hs.length_put, if_neg hsome]; simp
      have hlayC := lay_U hMy.col (by unfold maxLen; omega) (a := b) (b := a) (by unfold maxLen; omega) hb ha ()
      rw [colU_put hs a b v] at hlayC
      have hlayR : ∀ w2, OutAt priS.cod B rm (rowOf M) w2 → Calls Tryz.prog 126 #[.map (some B), .int .i64 a, .int .i64 b, .agg (priS.f v).toArray] w2 fun e w' => e = .returned (.tuple #[]) ∧ OutTo priS.cod B rm (rowOf (cput M a b v)) w2 w' := fun w2 h2 => by
        have := lay_Q h2 (by unfold maxLen; omega) (a := a) (b := b) (by unfold maxLen; omega) ha hb v
        rw [rowOf_put hs] at this
        exact this
      have hkeep : ∀ w2, OutTo codU C cm (colU (cput M a b v)) wy w2 → w2.cell? ⟨g, 0, none⟩ = some (.map (some B)) ∧ OutAt priS.cod B rm (rowOf M) w2 ∧ w2.rangeAt vb 0 (priS.f v) := fun w2 ⟨cm', c1, c2, c3⟩ => by
        have hglt : g < wy.heap.size := (Array.getElem?_eq_some_iff.1 hgy).1
        refine ⟨?_, hMy.row.block (fun k hk => c2.block k (hMy.row.lt hk) (hMy.off k hk) (fun h => h)), rangeAt_block (w := wy) (rangeAt_block HV.out.2.2 (hoy.block vb HV.out.2.1 HV.out.1 (fun h => h))) (c2.block vb (Nat.lt_of_lt_of_le HV.out.2.1 hoy.grow.size) (fun hk => (h2 vb hk).elim HV.out.1 (fun h => by have := HV.out.2.1; omega)) (fun h => h))⟩
        rw [World.cell?_of_block (c2.block g hglt (fun hk => hMy.notg hgy (.inr hk) rfl) (fun h => h))]
        exact (cells3 hgy).1
      rw [hwy] at hlayC hkeep
      have hke : ∀ w2, OutTo codU C cm (colU (cput M a b v)) (wd.setCell ⟨g, 2, none⟩ (.int .i64 ((M.length : Int) + 1))) w2 → (w2.cell? ⟨g, 0, none⟩ = some (.map (some B)) ∧ (loadSt_Q (.pointer (some ⟨vb, 0, none⟩))).run Tryz.prog w2 = .ok (.agg (priS.f v).toArray) w2) ∧ ∀ w3, OutTo priS.cod B rm (rowOf (cput M a b v)) w2 w3 → w3.cell? ⟨g, 0, none⟩ = some (.map (some B)) ∧ (loadSt_Q (.pointer (some ⟨vb, 0, none⟩))).run Tryz.prog w3 = .ok (.agg (priS.f v).toArray) w3 := fun w2 ho2 => by
        obtain ⟨e1, e2, e3⟩ := hkeep w2 ho2
        refine ⟨⟨e1, run_loadSt_Q e3⟩, fun w3 ⟨rm', r1, r2, r3⟩ => ?_⟩
        have hsz : wd.heap.size ≤ w2.heap.size := by obtain ⟨_, _, q, _⟩ := ho2; have := q.grow.size; simpa [World.setCell] using this
        have hgl : g < wd.heap.size := (Array.getElem?_eq_some_iff.1 hh).1
        refine ⟨?_, run_loadSt_Q (rangeAt_block e3 (r2.block vb (by have := ho.grow.size; have := HV.out.2.1; omega) (fun hk => (h1 vb hk).elim HV.out.1 (fun h => by have := HV.out.2.1; omega)) (fun h => h)))⟩
        rw [World.cell?_of_block (r2.block g (by omega) (fun hk => hM.notg hh (.inl hk) rfl) (fun h => h))]
        exact e1
      have HKE := Lib.hid hke
      clear hke
      have HLC := Lib.hid hlayC
      have HLR := Lib.hid hlayR
      have HKP := Lib.hid hkeep
      have HL1 := Lib.hid hl1
      have HL2 := Lib.hid hl2
      have HW := Lib.hid hwy
      have HFIN := Lib.hid (And.intro hoy (And.intro hgy (And.intro hMy (And.intro (hs.put a b v) (And.intro hn (And.intro hFg (And.intro hFl (And.intro h1 h2))))))))
      clear hrg hlayC hlayR hkeep hl1 hl2 hwy hoy hgy hMy ho hh hM hs hn hFg hFl h1 h2 hsome hnone hrl hcl hra hcb ha hb hu1 hu2 hz1 hz2 hmm
      have tok1 : True := trivial
      go_wp2_with (first
        | (at_lookup; have _t := tok1; refine wpl_look rfl _ _ _ _ rfl rfl rfl HL1.out ?_; clear tok1)
        | (at_lookup; refine wpl_look rfl _ _ _ _ rfl rfl rfl HL2.out ?_)
        | (refine wpl_allocS (s := priS) rfl rfl rfl ?_)
        | (refine wpl_storeS (s := priS) (t := t) (b := wc.heap.size) _ _ rfl rfl rfl rfl rfl (World.alloc_heap_new wc _) (zeroS priS) ?_; rw [newS, ← HWD.out])
        | (go_at_call 89; refine HLC.out.mono ?_; rintro e w2 ⟨rfl, hout⟩; obtain ⟨k9, hrow, hrg2⟩ := HKP.out w2 hout; have HRG2 := Lib.hid hrg2; clear hrg2; have HOUT := Lib.hid hout; have HROW := Lib.hid hrow; clear hout hrow)
        | fail)
      go_region_held3 (fun w' => w'.cell? ⟨g, 0, none⟩ = some (.map (some B)) ∧ (loadSt_Q (.pointer (some ⟨vb, 0, none⟩))).run Tryz.prog w' = .ok (.agg (priS.f v).toArray) w') (first | exact HKE.out w2.drew HOUT.out.drew |>.1 | exact K3.out) (first
        | (go_at_call 126; refine (HLR.out _ (HKP.out _ HOUT.out.drew).2.1).mono ?_; rintro e w3 ⟨rfl, hout3⟩; have K3 := Lib.hid ((HKE.out w2.drew HOUT.out.drew).2 w3 hout3); have HOUT3 := Lib.hid hout3; clear hout3)
        | fail)
      all_goals go_wp2_with fail
      refine bodyPost_end (results_none rfl _ _ _) rfl ⟨rfl, GrTo.later HBU.out ?_⟩
      obtain ⟨hoy, hgy, hMy, hs', hn, hFg, hFl, h1, h2⟩ := HFIN.out
      have hc := HOUT.out
      rw [← HW.out] at hc
      have hc := hc.drew
      exact maps_to hoy hgy hMy hs' hn hFg hFl h1 h2 hc (fun _ => HOUT3.out)

end Go.Proofs.YtpkamfbjgdmmoaaGreat
end

section
namespace Go.Proofs.YtpkamfbjgdmmoaaGreat
open Go.RowKit Go.Maps
set_option linter.unusedVariables false
set_option linter.unusedSimpArgs false

def loadSt_R (v : Value) : Sem Value := Instr.loadAt 56 v
theorem loadSt_R_hide (v : Value) : Instr.loadAt 56 v = loadSt_R v := rfl
theorem run_loadSt_R {w : World} {b : Nat} {t : _} (h : w.rangeAt b 0 (rfS.f t)) : (loadSt_R (.pointer (some ⟨b, 0, none⟩))).run Tryz.prog w = .ok (.agg (rfS.f t).toArray) w := run_loadS (s := rfS) h

set_option maxRecDepth 100000 in
set_option maxHeartbeats 4000000 in
attribute [local go_sem ↓] loadSt_R_hide in
theorem grid_Set_R {g : Nat} {M : Cls Rfm} {F : FP} {w : World} (h : GrAt rfS.cod 173 g M F w) (hlen : M.length ≤ 1000000) {a b : Int} (ha : (Lit.int .i64 a).wf = true) (hb : (Lit.int .i64 b).wf = true) (v : Rfm) :
    Calls Tryz.prog 84 #[.pointer (some ⟨g, 0, none⟩), .int .i64 a, .int .i64 b, .agg (rfS.f v).toArray] w fun e w' => e = .returned (.tuple #[]) ∧ GrTo rfS.cod 173 g (cput M a b v) F w w' := by
  have hu1 : Tryz.prog.underlying 170 = some (.map 3 200) := Tryz.underlying170
  have hu2 : Tryz.prog.underlying 200 = some (.map 3 56) := Tryz.underlying200
  have hz1 : ∀ w, (zeroValue 200).run Tryz.prog w = .ok (codM.enc none) w := fun w => Tryz.zeroValue200 w
  have hz2 : ∀ w, (zeroValue 56).run Tryz.prog w = .ok (rfS.cod.enc rfS.zero) w := fun w => rfS.zeroRun w
  have hmm := @run_makeMap Tryz.prog
  obtain ⟨uw, hu⟩ : ∃ u, u = w.alloc (.cells (rfS.f v).toArray 56) := ⟨_, rfl⟩
  have hbu : Below w.heap.size w uw := by rw [hu]; exact (Below.refl _ w).alloc (Nat.le_refl _) _
  obtain ⟨vb, hvb⟩ : ∃ vb, vb = w.heap.size := ⟨_, rfl⟩
  have hvF : ¬ F vb := fun hk => by have := h.2.2.1 vb hk; omega
  have hvl : vb < uw.heap.size := by rw [hu, hvb]; simp
  have hrg : uw.rangeAt vb 0 (rfS.f v) := by rw [hu, hvb]; exact atS rfS w v
  have h : GrAt rfS.cod 173 g M F uw := h.keep (Grow.of_below hbu) (fun k hk => hbu.block k (h.2.2.1 k hk))
  have HBU := Lib.hid hbu
  have HU := Lib.hid (And.intro hu hvb)
  have HV := Lib.hid (And.intro hvF (And.intro hvl hrg))
  clear hu hbu hvb hvF hvl hrg
  obtain ⟨hs, hFg, hFl, hmem⟩ := h
  have hkey : ∃ (mv : Option Nat) (q : Bool), uw.cell? ⟨g, 0, none⟩ = some (.map mv) ∧ (∀ uw, (binOp .eql 170 (.map mv) (.map Option.none)).run Tryz.prog uw = .ok (.bool q) uw) ∧
      ((q = true ∧ M = [] ∧ uw.heap[g]? = some (.cells #[.map none, .map none, .int .i64 0] 173 (0, 0))) ∨
       (q = false ∧ ∃ B C rm cm, uw.heap[g]? = some (.cells #[.map (some B), .map (some C), .int .i64 M.length] 173 (0, 0)) ∧ MapsAt rfS.cod B C rm cm M uw ∧ (∀ k, oblk B rm k → F k) ∧ (∀ k, oblk C cm k → F k))) := by
    rcases hmem with ⟨e, hh⟩ | ⟨B, C, rm, cm, hh, h⟩
    · exact ⟨none, true, (cells3 hh).1, fun uw => by kernel_rfl, .inl ⟨rfl, e, hh⟩⟩
    · exact ⟨some B, false, (cells3 hh).1, fun uw => by kernel_rfl, .inr ⟨rfl, B, C, rm, cm, hh, h⟩⟩
  obtain ⟨mv, q, kq, hq, hmem⟩ := hkey
  have HM := Lib.hid hmem
  have HFl := Lib.hid hFl
  have HFg := Lib.hid hFg
  clear hmem hFl hFg
  go_enter Tryz.func84, Tryz.ntmps84
  go_upto_region 1 with fail
  rw [← HU.out.1, ← HU.out.2]
  go_upto_if 16 with fail
  clear hq kq
  go_cut [] (fun wx => ∃ B C rm cm, wx.heap[g]? = some (.cells #[.map (some B), .map (some C), .int .i64 M.length] 173 (0, 0)) ∧ MapsAt rfS.cod B C rm cm M wx ∧ Only F (fun _ => False) uw wx ∧ (∀ k, oblk B rm k → F k ∨ uw.heap.size ≤ k) ∧ (∀ k, oblk C cm k → F k ∨ uw.heap.size ≤ k))
  case first =>
    rcases HM.out with ⟨rfl, e, hh⟩ | ⟨rfl, B, C, rm, cm, hh, hM, h1, h2⟩
    · obtain ⟨k0, k1, k2, f0, f1, f2⟩ := cells3 hh
      have hglt : g < uw.heap.size := (Array.getElem?_eq_some_iff.1 hh).1
      have HH := Lib.hid hh
      have HGL := Lib.hid hglt
      have HE := Lib.hid e
      clear hh e
      go_wp2_with fail
      go_meet
      obtain rfl := HE.out
      obtain ⟨v0, hv0⟩ : ∃ v0, v0 = (uw.setCell ⟨g, 0, none⟩ (.map (some uw.heap.size))).setCell ⟨g, 1, none⟩ (.map (some (uw.heap.size + 1))) := ⟨_, rfl⟩
      have hvs : v0.heap.size = uw.heap.size := by rw [hv0]; simp [World.setCell]
      have hg3 : v0.heap[g]? = some (.cells #[.map (some uw.heap.size), .map (some (uw.heap.size + 1)), .int .i64 0] 173 (0, 0)) := by rw [hv0]; exact (set3 (set3 HH.out).1).2.1
      have hov : Only F (fun _ => False) uw v0 := by rw [hv0]; exact only_trans (only_set HFg.out) (only_set HFg.out)
      rw [← hv0]
      clear hv0
      have hr : OutAt rfS.cod uw.heap.size [] (rowOf []) ((v0.alloc (.map #[] 0)).alloc (.map #[] 0)) := by
        have := OutAt.made rfS.cod v0
        rw [hvs] at this
        exact (this.block (fun k hk => Below.heap_alloc _ _ k (this.lt hk))).congr (fun _ => rfl)
      have hc : OutAt codU (uw.heap.size + 1) [] (colU ([] : Cls Rfm)) ((v0.alloc (.map #[] 0)).alloc (.map #[] 0)) := by
        have := OutAt.made codU (v0.alloc (.map #[] 0))
        rw [World.size_alloc, hvs] at this
        exact this.congr (fun _ => rfl)
      have hob : ∀ B k, oblk B [] k → k = B := fun B k hk => hk.elim id (fun ⟨a, ha⟩ => by simp [sget] at ha)
      have hM1 : MapsAt rfS.cod uw.heap.size (uw.heap.size + 1) [] [] ([] : Cls Rfm) ((v0.alloc (.map #[] 0)).alloc (.map #[] 0)) := ⟨hr, hc, fun k hk hk' => by have := hob _ _ hk; have := hob _ _ hk'; omega⟩
      have hg1 : ((v0.alloc (.map #[] 0)).alloc (.map #[] 0)).heap[g]? = some (.cells #[.map (some uw.heap.size), .map (some (uw.heap.size + 1)), .int .i64 0] 173 (0, 0)) := by
        rw [Below.heap_alloc _ _ g (by simp; omega), Below.heap_alloc _ _ g (by omega)]; exact hg3
      refine ⟨_, _, _, _, hg1, hM1, ?_, fun k hk => .inr ?_, fun k hk => .inr ?_⟩
      · exact only_trans hov (only_trans (only_alloc _) (only_alloc _))
      · have := hob _ _ hk; omega
      · have := hob _ _ hk; omega
    · obtain ⟨k0, k1, k2, f0, f1, f2⟩ := cells3 hh
      have HH := Lib.hid hh
      have HMM := Lib.hid hM
      have H1 := Lib.hid h1
      have H2 := Lib.hid h2
      clear hh hM h1 h2
      go_wp2_with fail
      go_meet
      exact ⟨B, C, rm, cm, HH.out, HMM.out, Only.refl _ _ _, fun k hk => .inl (H1.out k hk), fun k hk => .inl (H2.out k hk)⟩
  case rest =>
    obtain ⟨B, C, rm, cm, hh, hM, ho, h1, h2⟩ := hcut
    have hrg : wc.rangeAt vb 0 (rfS.f v) := rangeAt_block HV.out.2.2 (ho.block vb HV.out.2.1 HV.out.1 (fun h => h))
    have HRG := Lib.hid hrg
    obtain ⟨k0, k1, k2, f0, f1, f2⟩ := cells3 hh
    have hrl := outer_length hM.row hs
    have hcl := cols_length hM.col
    have hra := row_length M a
    have hcb := colU_length M b
    have hFl := HFl.out
    have hFg := HFg.out
    obtain ⟨mi, hl1, hl2⟩ : ∃ mi, (Instr.lookup 170 (.map (some B)) (.int .i64 a) false).run Tryz.prog wc = .ok (.map mi) wc ∧
        (Instr.lookup 200 (.map mi) (.int .i64 b) true).run Tryz.prog wc = .ok (.tuple #[rfS.cod.enc ((cget M a b).getD rfS.zero), .bool (cget M a b).isSome]) wc := by
      have hl := hM.row.map.look (z0 := none) hu1 (hz1 wc) ha
      cases hsg : sget rm a with
      | none =>
        rw [hsg] at hl
        refine ⟨none, hl, ?_⟩
        have hr := hM.row.isNil hsg
        have : cget M a b = none := by rw [cget, hr]; rfl
        rw [this]
        exact nil_look hu2 (hz2 wc) hb true
      | some x =>
        obtain ⟨b', rfl, _, _, h3⟩ := hM.row.at_ a x hsg
        rw [hsg] at hl
        exact ⟨some b', hl, h3.look_ok hu2 (hz2 wc) hb⟩
    obtain ⟨t, ht⟩ : ∃ t, t = (cget M a b).getD rfS.zero := ⟨_, rfl⟩
    rw [← ht] at hl2
    obtain ⟨wd, hwd⟩ : ∃ wd, wd = wc.alloc (rfS.obj t) := ⟨_, rfl⟩
    have hbd : Below wc.heap.size wc wd := by rw [hwd]; exact (Below.refl _ wc).alloc (Nat.le_refl _) _
    have hh := (hbd.block g (Array.getElem?_eq_some_iff.1 hh).1).trans hh
    have hM : MapsAt rfS.cod B C rm cm M wd := hM.block (fun k hk => hbd.block k (hk.elim hM.row.lt hM.col.lt))
    have ho : Only F (fun _ => False) uw wd := only_trans ho (by rw [hwd]; exact only_alloc _)
    obtain ⟨m0, m1, m2, n0, n1, n2⟩ := cells3 hh
    have hrg : wd.rangeAt vb 0 (rfS.f v) := rangeAt_block HV.out.2.2 (ho.block vb HV.out.2.1 HV.out.1 (fun h => h))
    have HRG := Lib.hid hrg
    have HWD := Lib.hid hwd
    clear ht hwd hbd
    by_cases hsome : (cget M a b).isSome = true
    · -- the cell was there
      rw [hsome] at hl2
      have hcol : colU (cput M a b v) = colU M := by
        rw [← colU_put hs]
        funext j
        split
        · rename_i e; subst e
          obtain ⟨u, hu⟩ := Option.isSome_iff_exists.1 hsome
          refine ((srt_colU hs j).put _ _).ext (srt_colU hs j) (fun x => ?_)
          rw [mem_sput]
          constructor
          · rintro (e | e)
            · subst e; exact mem_colU.2 ⟨u, mem_colOf.2 (hs.get.1 hu)⟩
            · exact e.1
          · intro hx
            by_cases e : x.1 = a
            · exact .inl (by rw [← e])
            · exact .inr ⟨hx, e⟩
        · rfl
      have hn : (M.length : Int) = (cput M a b v).length := by rw [hs.length_put, if_pos hsome]
      have hlay := lay_R (w := wd.drew) (hM.row.block (fun k _ => rfl)) (by unfold maxLen; omega) (a := a) (b := b) (by unfold maxLen; omega) ha hb v
      rw [rowOf_put hs] at hlay
      have hks : ∀ w2, OutTo rfS.cod B rm (rowOf (cput M a b v)) wd.drew w2 → w2.cell? ⟨g, 0, none⟩ = some (.map (some B)) ∧ (loadSt_R (.pointer (some ⟨vb, 0, none⟩))).run Tryz.prog w2 = .ok (.agg (rfS.f v).toArray) w2 := fun w2 ⟨rm', r1, r2, r3⟩ => by
        have hgl : g < wd.heap.size := (Array.getElem?_eq_some_iff.1 hh).1
        refine ⟨?_, run_loadSt_R (rangeAt_block (w := wd) hrg (r2.block vb (Nat.lt_of_lt_of_le HV.out.2.1 ho.grow.size) (fun hk => (h1 vb hk).elim HV.out.1 (fun h => by have := HV.out.2.1; omega)) (fun h => h)))⟩
        rw [World.cell?_of_block (r2.block g hgl (fun hk => hM.notg hh (.inl hk) rfl) (fun h => h))]
        exact (cells3 hh).1
      have HKS := Lib.hid hks
      have KD := Lib.hid (show wd.drew.cell? ⟨g, 0, none⟩ = some (.map (some B)) ∧ (loadSt_R (.pointer (some ⟨vb, 0, none⟩))).run Tryz.prog wd.drew = .ok (.agg (rfS.f v).toArray) wd.drew from ⟨(cells3 hh).1, run_loadSt_R hrg⟩)
      clear hks
      have HLAY := Lib.hid hlay
      have HL1 := Lib.hid hl1
      have HL2 := Lib.hid hl2
      have HFIN := Lib.hid (And.intro (show Only F (fun _ => False) uw wd.drew from only_trans ho (Only.of_later (Below.refl _ wd).drew)) (And.intro (show wd.drew.heap[g]? = _ from hh) (And.intro (show MapsAt rfS.cod B C rm cm M wd.drew from hM.block (fun k _ => rfl)) (And.intro (hs.put a b v) (And.intro hn (And.intro hFg (And.intro hFl (And.intro h1 (And.intro h2 hcol)))))))))
      clear hrg hlay hl1 hl2 ho hh hM hs hn hFg hFl h1 h2 hcol hsome hrl hcl hra hcb hlen ha hb hu1 hu2 hz1 hz2 hmm
      have tok1 : True := trivial
      go_wp2_with (first
        | (at_lookup; have _t := tok1; refine wpl_look rfl _ _ _ _ rfl rfl rfl HL1.out ?_; clear tok1)
        | (at_lookup; refine wpl_look rfl _ _ _ _ rfl rfl rfl HL2.out ?_)
        | (refine wpl_allocS (s := rfS) rfl rfl rfl ?_)
        | (refine wpl_storeS (s := rfS) (t := t) (b := wc.heap.size) _ _ rfl rfl rfl rfl rfl (World.alloc_heap_new wc _) (zeroS rfS) ?_; rw [newS, ← HWD.out])
        | fail)
      go_region_held3 (fun w' => w'.cell? ⟨g, 0, none⟩ = some (.map (some B)) ∧ (loadSt_R (.pointer (some ⟨vb, 0, none⟩))).run Tryz.prog w' = .ok (.agg (rfS.f v).toArray) w') (first | exact KD.out | exact K2.out) (first
        | (go_at_call 110; refine HLAY.out.mono ?_; rintro e w2 ⟨rfl, hout⟩; have K2 := Lib.hid (HKS.out w2 hout); have HOUT := Lib.hid hout; clear hout)
        | fail)
      all_goals go_wp2_with fail
      refine bodyPost_end (results_none rfl _ _ _) rfl ⟨rfl, GrTo.later HBU.out ?_⟩
      obtain ⟨ho, hh, hM, hs', hn, hFg, hFl, h1, h2, hcol⟩ := HFIN.out
      exact row_to ho hh hM hs' hn hFg hFl h1 h2 hcol HOUT.out
    · -- it was not
      have hnone : (cget M a b).isSome = false := by simpa using hsome
      rw [hnone] at hl2
      have W1 : IntKind.i64.wrap ((M.length : Int) + 1) = (M.length : Int) + 1 := IntWalk.i64_in _ (by omega)
      obtain ⟨wy, hwy⟩ : ∃ wy, wy = wd.setCell ⟨g, 2, none⟩ (.int .i64 ((M.length : Int) + 1)) := ⟨_, rfl⟩
      have hgy : wy.heap[g]? = some (.cells #[.map (some B), .map (some C), .int .i64 ((M.length : Int) + 1)] 173 (0, 0)) := by rw [hwy]; exact (set3 hh).2.2
      have hMy : MapsAt rfS.cod B C rm cm M wy := by rw [hwy]; exact hM.set hh
      have hoy : Only F (fun _ => False) uw wy := only_trans ho (by rw [hwy]; exact only_set hFg)
      have hn : (M.length : Int) + 1 = (cput M a b v).length := by rw [hs.length_put, if_neg hsome]; simp
      have hlayC := lay_U hMy.col (by unfold maxLen; omega) (a := b) (b := a) (by unfold maxLen; omega) hb ha ()
      rw [colU_put hs a b v] at hlayC
      have hlayR : ∀ w2, OutAt rfS.cod B rm (rowOf M) w2 → Calls Tryz.prog 110 #[.map (some B), .int .i64 a, .int .i64 b, .agg (rfS.f v).toArray] w2 fun e w' => e = .returned (.tuple #[]) ∧ OutTo rfS.cod B rm (rowOf (cput M a b v)) w2 w' := fun w2 h2 => by
        have := lay_R h2 (by unfold maxLen; omega) (a := a) (b := b) (by unfold maxLen; omega) ha hb v
        rw [rowOf_put hs] at this
        exact this
      have hkeep : ∀ w2, OutTo codU C cm (colU (cput M a b v)) wy w2 → w2.cell? ⟨g, 0, none⟩ = some (.map (some B)) ∧ OutAt rfS.cod B rm (rowOf M) w2 ∧ w2.rangeAt vb 0 (rfS.f v) := fun w2 ⟨cm', c1, c2, c3⟩ => by
        have hglt : g < wy.heap.size := (Array.getElem?_eq_some_iff.1 hgy).1
        refine ⟨?_, hMy.row.block (fun k hk => c2.block k (hMy.row.lt hk) (hMy.off k hk) (fun h => h)), rangeAt_block (w := wy) (rangeAt_block HV.out.2.2 (hoy.block vb HV.out.2.1 HV.out.1 (fun h => h))) (c2.block vb (Nat.lt_of_lt_of_le HV.out.2.1 hoy.grow.size) (fun hk => (h2 vb hk).elim HV.out.1 (fun h => by have := HV.out.2.1; omega)) (fun h => h))⟩
        rw [World.cell?_of_block (c2.block g hglt (fun hk => hMy.notg hgy (.inr hk) rfl) (fun h => h))]
        exact (cells3 hgy).1
      rw [hwy] at hlayC hkeep
      have hke : ∀ w2, OutTo codU C cm (colU (cput M a b v)) (wd.setCell ⟨g, 2, none⟩ (.int .i64 ((M.length : Int) + 1))) w2 → (w2.cell? ⟨g, 0, none⟩ = some (.map (some B)) ∧ (loadSt_R (.pointer (some ⟨vb, 0, none⟩))).run Tryz.prog w2 = .ok (.agg (rfS.f v).toArray) w2) ∧ ∀ w3, OutTo rfS.cod B rm (rowOf (cput M a b v)) w2 w3 → w3.cell? ⟨g, 0, none⟩ = some (.map (some B)) ∧ (loadSt_R (.pointer (some ⟨vb, 0, none⟩))).run Tryz.prog w3 = .ok (.agg (rfS.f v).toArray) w3 := fun w2 ho2 => by
        obtain ⟨e1, e2, e3⟩ := hkeep w2 ho2
        refine ⟨⟨e1, run_loadSt_R e3⟩, fun w3 ⟨rm', r1, r2, r3⟩ => ?_⟩
        have hsz : wd.heap.size ≤ w2.heap.size := by obtain ⟨_, _, q, _⟩ := ho2; have := q.grow.size; simpa [World.setCell] using this
        have hgl : g < wd.heap.size := (Array.getElem?_eq_some_iff.1 hh).1
        refine ⟨?_, run_loadSt_R (rangeAt_block e3 (r2.block vb (by have := ho.grow.size; have := HV.out.2.1; omega) (fun hk => (h1 vb hk).elim HV.out.1 (fun h => by have := HV.out.2.1; omega)) (fun h => h)))⟩
        rw [World.cell?_of_block (r2.block g (by omega) (fun hk => hM.notg hh (.inl hk) rfl) (fun h => h))]
        exact e1
      have HKE := Lib.hid hke
      clear hke
      have HLC := Lib.hid hlayC
      have HLR := Lib.hid hlayR
      have HKP := Lib.hid hkeep
      have HL1 := Lib.hid hl1
      have HL2 := Lib.hid hl2
      have HW := Lib.hid hwy
      have HFIN := Lib.hid (And.intro hoy (And.intro hgy (And.intro hMy (And.intro (hs.put a b v) (And.intro hn (And.intro hFg (And.intro hFl (And.intro h1 h2))))))))
      clear hrg hlayC hlayR hkeep hl1 hl2 hwy hoy hgy hMy ho hh hM hs hn hFg hFl h1 h2 hsome hnone hrl hcl hra hcb ha hb hu1 hu2 hz1 hz2 hmm
      have tok1 : True := trivial
      go_wp2_with (first
        | (at_lookup; have _t := tok1; refine wpl_look rfl _ _ _ _ rfl rfl rfl HL1.out ?_; clear tok1)
        | (at_lookup; refine wpl_look rfl _ _ _ _ rfl rfl rfl HL2.out ?_)
        | (refine wpl_allocS (s := rfS) rfl rfl rfl ?_)
        | (refine wpl_storeS (s := rfS) (t := t) (b := wc.heap.size) _ _ rfl rfl rfl rfl rfl (World.alloc_heap_new wc _) (zeroS rfS) ?_; rw [newS, ← HWD.out])
        | (go_at_call 89; refine HLC.out.mono ?_; rintro e w2 ⟨rfl, hout⟩; obtain ⟨k9, hrow, hrg2⟩ := HKP.out w2 hout; have HRG2 := Lib.hid hrg2; clear hrg2; have HOUT := Lib.hid hout; have HROW := Lib.hid hrow; clear hout hrow)
        | fail)
      go_region_held3 (fun w' => w'.cell? ⟨g, 0, none⟩ = some (.map (some B)) ∧ (loadSt_R (.pointer (some ⟨vb, 0, none⟩))).run Tryz.prog w' = .ok (.agg (rfS.f v).toArray) w') (first | exact HKE.out w2.drew HOUT.out.drew |>.1 | exact K3.out) (first
        | (go_at_call 110; refine (HLR.out _ (HKP.out _ HOUT.out.drew).2.1).mono ?_; rintro e w3 ⟨rfl, hout3⟩; have K3 := Lib.hid ((HKE.out w2.drew HOUT.out.drew).2 w3 hout3); have HOUT3 := Lib.hid hout3; clear hout3)
        | fail)
      all_goals go_wp2_with fail
      refine bodyPost_end (results_none rfl _ _ _) rfl ⟨rfl, GrTo.later HBU.out ?_⟩
      obtain ⟨hoy, hgy, hMy, hs', hn, hFg, hFl, h1, h2⟩ := HFIN.out
      have hc := HOUT.out
      rw [← HW.out] at hc
      have hc := hc.drew
      exact maps_to hoy hgy hMy hs' hn hFg hFl h1 h2 hc (fun _ => HOUT3.out)
end Go.Proofs.YtpkamfbjgdmmoaaGreat
end

section
namespace Go.Proofs.YtpkamfbjgdmmoaaGreat
open Go.RowKit Go.Maps
set_option linter.unusedVariables false
set_option linter.unusedSimpArgs false

/-- A list as a table: row 0, from number k on. -/
def tabR {β : Type} : Nat → List β → Cls β
  | _, [] => []
  | k, x :: l => ((0, (k : Int)), x) :: tabR (k + 1) l
def rowR {β : Type} : Nat → List β → List (Int × β)
  | _, [] => []
  | k, x :: l => ((k : Int), x) :: rowR (k + 1) l
section
variable {β : Type}
theorem tabR_len : ∀ (l : List β) (k : Nat), (tabR k l).length = l.length
  | [], _ => rfl
  | _ :: l, k => by rw [tabR, List.length_cons, List.length_cons, tabR_len l]
theorem rowR_len : ∀ (l : List β) (k : Nat), (rowR k l).length = l.length
  | [], _ => rfl
  | _ :: l, k => by rw [rowR, List.length_cons, List.length_cons, rowR_len l]
theorem mem_tabR : ∀ {l : List β} {k : Nat} {c : (Int × Int) × β}, c ∈ tabR k l ↔ c.1.1 = 0 ∧ ∃ i, l[i]? = some c.2 ∧ c.1.2 = ((k + i : Nat) : Int)
  | [], k, c => by simp [tabR]
  | x :: l, k, c => by
    rw [tabR, List.mem_cons, mem_tabR (l := l)]
    constructor
    · rintro (rfl | ⟨h0, i, h1, h2⟩)
      · exact ⟨rfl, 0, rfl, rfl⟩
      · exact ⟨h0, i + 1, h1, by rw [h2]; omega⟩
    · rintro ⟨h0, i, h1, h2⟩
      cases i with
      | zero =>
        left
        obtain ⟨⟨c1, c2⟩, c3⟩ := c
        simp only [List.getElem?_cons_zero, Option.some.injEq] at h1
        simp only at h0 h2
        rw [h0, h2, h1]; rfl
      | succ i => exact .inr ⟨h0, i, by simpa using h1, by rw [h2]; omega⟩
theorem tabR_srt : ∀ (l : List β) (k : Nat), SrtC (tabR k l)
  | [], _ => List.Pairwise.nil
  | x :: l, k => by
    refine List.Pairwise.cons (fun c hc => ?_) (tabR_srt l (k + 1))
    obtain ⟨h0, i, -, h2⟩ := mem_tabR.1 hc
    exact .inr ⟨h0.symm, by show (k : Int) < c.1.2; rw [h2]; omega⟩
theorem mem_rowR : ∀ {l : List β} {k : Nat} {c : Int × β}, c ∈ rowR k l ↔ ∃ i, l[i]? = some c.2 ∧ c.1 = ((k + i : Nat) : Int)
  | [], k, c => by simp [rowR]
  | x :: l, k, c => by
    rw [rowR, List.mem_cons, mem_rowR (l := l)]
    constructor
    · rintro (rfl | ⟨i, h1, h2⟩)
      · exact ⟨0, rfl, rfl⟩
      · exact ⟨i + 1, h1, by rw [h2]; omega⟩
    · rintro ⟨i, h1, h2⟩
      cases i with
      | zero =>
        left
        obtain ⟨c1, c2⟩ := c
        simp only [List.getElem?_cons_zero, Option.some.injEq] at h1
        simp only at h2
        rw [h2, h1]; rfl
      | succ i => exact .inr ⟨i, by simpa using h1, by rw [h2]; omega⟩
theorem row_tabR : ∀ (l : List β) (k : Nat), rowOf (tabR k l) 0 = rowR k l
  | [], _ => rfl
  | x :: l, k => by
    have := row_tabR l (k + 1)
    unfold rowOf at this ⊢
    rw [tabR, List.filterMap_cons, this]
    rfl
theorem get_tabR (l : List β) (b : Int) : cget (tabR 0 l) 0 b = if 0 ≤ b then l[b.toNat]? else none := by
  have hs := tabR_srt l 0
  by_cases h : 0 ≤ b
  · rw [if_pos h]
    cases hx : l[b.toNat]? with
    | some x => exact hs.get.2 (mem_tabR.2 ⟨rfl, b.toNat, hx, by show b = _; omega⟩)
    | none =>
      cases hc : cget (tabR 0 l) 0 b with
      | none => rfl
      | some y =>
        obtain ⟨-, i, h1, h2⟩ := mem_tabR.1 (hs.get.1 hc)
        have h2 : b = ((0 + i : Nat) : Int) := h2
        have e : b.toNat = i := by omega
        rw [e] at hx
        rw [hx] at h1
        cases h1
  · rw [if_neg h]
    cases hc : cget (tabR 0 l) 0 b with
    | none => rfl
    | some y =>
      obtain ⟨-, i, h1, h2⟩ := mem_tabR.1 (hs.get.1 hc)
      have h2 : b = ((0 + i : Nat) : Int) := h2
      omega
theorem put_tabR_old {l : List β} {i : Nat} (hi : i < l.length) (x : β) : cput (tabR 0 l) 0 i x = tabR 0 (l.set i x) := by
  refine SrtC.ext ((tabR_srt l 0).put 0 i x) (tabR_srt _ 0) fun c => ?_
  rw [mem_cput, mem_tabR, mem_tabR]
  constructor
  · rintro (rfl | ⟨⟨h0, j, h1, h2⟩, hne⟩)
    · exact ⟨rfl, i, by simp [hi], by simp⟩
    · refine ⟨h0, j, ?_, h2⟩
      have hj : i ≠ j := fun e => hne (by rw [← e] at h2; exact Prod.ext h0 (by rw [h2]; simp))
      rw [List.getElem?_set_ne hj]; exact h1
  · rintro ⟨h0, j, h1, h2⟩
    by_cases e : i = j
    · subst e
      left
      rw [List.getElem?_set_self hi] at h1
      obtain ⟨⟨c1, c2⟩, c3⟩ := c
      simp only [Option.some.injEq, Nat.zero_add] at h0 h1 h2
      rw [h0, h1, h2]
    · right
      rw [List.getElem?_set_ne e] at h1
      refine ⟨⟨h0, j, h1, h2⟩, fun hc => e ?_⟩
      have := congrArg Prod.snd hc
      rw [h2] at this
      simp only at this
      omega
theorem put_tabR_new (l : List β) (x : β) : cput (tabR 0 l) 0 l.length x = tabR 0 (l ++ [x]) := by
  refine SrtC.ext ((tabR_srt l 0).put 0 _ x) (tabR_srt _ 0) fun c => ?_
  rw [mem_cput, mem_tabR, mem_tabR]
  constructor
  · rintro (rfl | ⟨⟨h0, j, h1, h2⟩, hne⟩)
    · exact ⟨rfl, l.length, by simp, by simp⟩
    · refine ⟨h0, j, ?_, h2⟩
      have hj : j < l.length := (List.getElem?_eq_some_iff.1 h1).1
      rw [List.getElem?_append_left hj]; exact h1
  · rintro ⟨h0, j, h1, h2⟩
    have hj : j < l.length + 1 := by have := (List.getElem?_eq_some_iff.1 h1).1; simpa using this
    by_cases e : j = l.length
    · subst e
      left
      simp only [List.getElem?_concat_length, Option.some.injEq] at h1
      obtain ⟨⟨c1, c2⟩, c3⟩ := c
      simp only [Nat.zero_add] at h0 h1 h2
      rw [h0, ← h1, h2]
    · right
      rw [List.getElem?_append_left (by omega)] at h1
      refine ⟨⟨h0, j, h1, h2⟩, fun hc => e ?_⟩
      have := congrArg Prod.snd hc
      rw [h2] at this
      simp only at this
      omega
end
end Go.Proofs.YtpkamfbjgdmmoaaGreat
end

section
namespace Go.Proofs.YtpkamfbjgdmmoaaGreat
set_option linter.unusedVariables false
set_option linter.unusedSimpArgs false

/-- Accounts: what is free, what is held. -/
abbrev Acc := Nat → Int × Int
def acc0 : Acc := fun _ => (0, 0)
def upd (A : Acc) (a : Nat) (x : Int × Int) : Acc := fun k => if k = a then x else A k
theorem upd_same (A : Acc) (a : Nat) (x : Int × Int) : upd A a x a = x := by simp [upd]
theorem upd_other (A : Acc) {a k : Nat} (x : Int × Int) (h : k ≠ a) : upd A a x k = A k := by simp [upd, h]
def both (A : Acc) (k : Nat) : Int := (A k).1 + (A k).2
/-- What the first n accounts have. -/
def sumTo (A : Acc) : Nat → Int
  | 0 => 0
  | n + 1 => sumTo A n + both A n
theorem sumTo_upd (A : Acc) (a : Nat) (x : Int × Int) : ∀ n, sumTo (upd A a x) n = sumTo A n + (if a < n then (x.1 + x.2) - both A a else 0)
  | 0 => by simp [sumTo]
  | n + 1 => by
    rw [sumTo, sumTo, sumTo_upd A a x n]
    by_cases h : n = a
    · subst h
      have : both (upd A n x) n = x.1 + x.2 := by simp [both, upd_same]
      rw [this, if_neg (by omega), if_pos (by omega)]; omega
    · have : both (upd A a x) n = both A n := by simp [both, upd_other A x h]
      rw [this]
      by_cases h2 : a < n
      · rw [if_pos h2, if_pos (by omega)]; omega
      · rw [if_neg h2, if_neg (by omega)]; omega
/-- No account is below nought; all of them are within what may be. -/
structure AccOk (A : Acc) : Prop where
  free : ∀ k, 0 ≤ (A k).1
  held : ∀ k, 0 ≤ (A k).2
  all : sumTo A 10 ≤ 1073741824
theorem sumTo_mono {A : Acc} (h : ∀ k, 0 ≤ both A k) : ∀ {m n : Nat}, m ≤ n → sumTo A m ≤ sumTo A n := by
  intro m n hmn
  induction hmn with
  | refl => exact Int.le_refl _
  | step _ ih => rw [sumTo]; have := h; exact Int.le_trans ih (by have := h (by assumption); omega)
theorem AccOk.sum {A : Acc} (h : AccOk A) (k : Nat) : 0 ≤ both A k := by have := h.free k; have := h.held k; unfold both; omega
theorem AccOk.part {A : Acc} (h : AccOk A) {n : Nat} (hn : n ≤ 10) : 0 ≤ sumTo A n ∧ sumTo A n ≤ 1073741824 := by
  have h1 := sumTo_mono h.sum (Nat.zero_le n)
  have h2 := sumTo_mono h.sum hn
  have h3 := h.all
  rw [sumTo] at h1
  omega
theorem AccOk.one {A : Acc} (h : AccOk A) {k : Nat} (hk : k < 10) : both A k ≤ 1073741824 := by
  have h1 := h.part (n := k) (by omega)
  have h2 := h.part (n := k + 1) (by omega)
  rw [sumTo] at h2
  omega
theorem AccOk.zero : AccOk acc0 := ⟨fun k => by simp [acc0], fun k => by simp [acc0], by decide⟩
theorem AccOk.upd {A : Acc} (h : AccOk A) {a : Nat} {x : Int × Int} (ha : a < 10) (h1 : 0 ≤ x.1) (h2 : 0 ≤ x.2) (hs : sumTo A 10 + (x.1 + x.2) - both A a ≤ 1073741824) : AccOk (upd A a x) := by
  refine ⟨fun k => ?_, fun k => ?_, ?_⟩
  · by_cases e : k = a
    · subst e; rw [upd_same]; exact h1
    · rw [upd_other A x e]; exact h.free k
  · by_cases e : k = a
    · subst e; rw [upd_same]; exact h2
    · rw [upd_other A x e]; exact h.held k
  · rw [sumTo_upd, if_pos ha]; omega
/-- The greatest lock of a row. -/
def maxTo (l : List (Int × Int)) : Int := l.foldl (fun n x => max n x.2) 0
theorem maxTo_snoc (l : List (Int × Int)) (x : Int × Int) : maxTo (l ++ [x]) = max (maxTo l) x.2 := by simp [maxTo, List.foldl_append]
/-- What is locked of an account. -/
def lockedOf (M : Cls Int) (a : Int) : Int := maxTo (rowOf M a)
def isAcc (a : Int) : Prop := 0 ≤ a ∧ a < 10
instance (a : Int) : Decidable (isAcc a) := by unfold isAcc; infer_instance
def isBal (n : Int) : Prop := 0 ≤ n ∧ n ≤ 1073741824
instance (a : Int) : Decidable (isBal a) := by unfold isBal; infer_instance
/-- May n be taken from what a has free? -/
def spendE (A : Acc) (M : Cls Int) (a n : Int) (back : Bool) : Int :=
  if ¬ isAcc a ∨ ¬ isBal n then 1 else if (A a.toNat).1 < n then 6 else if 0 < n ∧ back = false ∧ (A a.toNat).1 - n < lockedOf M a then 7 else 0
def spendA (A : Acc) (a n : Int) : Acc := upd A a.toNat ((A a.toNat).1 - n, (A a.toNat).2)
theorem spendE_ok {A : Acc} {M : Cls Int} {a n : Int} {b : Bool} (h : spendE A M a n b = 0) : isAcc a ∧ isBal n ∧ n ≤ (A a.toNat).1 := by
  unfold spendE at h
  split at h
  · cases h
  · rename_i h1
    split at h
    · cases h
    · rename_i h2
      exact ⟨by simpa using fun k => h1 (.inl k), by simpa using fun k => h1 (.inr k), by omega⟩
theorem spendA_ok {A : Acc} (h : AccOk A) {a n : Int} (ha : isAcc a) (hn : isBal n) (hf : n ≤ (A a.toNat).1) : AccOk (spendA A a n) := by
  unfold isAcc at ha
  unfold isBal at hn
  have := h.held a.toNat
  have := h.all
  exact h.upd (by omega) (by simp only; omega) (by simpa using h.held _) (by unfold both; simp only; omega)
end Go.Proofs.YtpkamfbjgdmmoaaGreat
end

section
namespace Go.Proofs
open Go.Shelf
def Tryz.keysA_ren : Go.Shelf.Ren := ⟨fun | 7 => 162 | 10 => 166 | n => n, fun | 23 => 241 | 26 => 3 | 3 => 3 | 28 => 250 | 0 => 0 | 27 => 249 | 33 => 72 | 4 => 4 | n => n, fun | n => n⟩
theorem Tryz.keysA : Go.Proofs.SlLaysZI.n7 Tryz.prog Tryz.keysA_ren := {
  mixed := by kernel_rfl
  f7 := ⟨Tryz.f162.name, by decide, Tryz.func162.trans (congrArg some (by kernel_rfl))⟩
  f10 := ⟨Tryz.f166.name, by decide, Tryz.func166.trans (congrArg some (by kernel_rfl))⟩
  t0 := Tryz.underlying0
  a0 := Tryz.isAgg0
  z0 := Tryz.sizeOf0
  v0 := Tryz.zeroValue0
  t4 := Tryz.underlying4
  a4 := Tryz.isAgg4
  z4 := Tryz.sizeOf4
  v4 := Tryz.zeroValue4
  t23 := Tryz.underlying241
  a23 := Tryz.isAgg241
  z23 := Tryz.sizeOf241
  v23 := Tryz.zeroValue241
  t26 := Tryz.underlying3
  a26 := Tryz.isAgg3
  z26 := Tryz.sizeOf3
  v26 := Tryz.zeroValue3
  t27 := Tryz.underlying249
  a27 := Tryz.isAgg249
  z27 := Tryz.sizeOf249
  v27 := Tryz.zeroValue249
  t28 := Tryz.underlying250
  a28 := Tryz.isAgg250
  z28 := Tryz.sizeOf250
  v28 := Tryz.zeroValue250
  t33 := Tryz.underlying72
  a33 := Tryz.isAgg72
  z33 := Tryz.sizeOf72
  v33 := Tryz.zeroValue72 }
def Tryz.sortedA_ren : Go.Shelf.Ren := ⟨fun | 6 => 150 | 8 => 158 | 9 => 159 | 11 => 163 | 13 => 165 | 12 => 164 | 23 => 176 | 24 => 177 | 14 => 167 | 15 => 168 | 16 => 169 | 17 => 170 | 18 => 171 | 19 => 172 | 20 => 173 | 21 => 174 | 22 => 175 | 25 => 178 | 26 => 179 | 27 => 180 | 28 => 181 | 29 => 182 | 30 => 118 | 31 => 183 | n => n, fun | 26 => 3 | 28 => 250 | 24 => 22 | 0 => 0 | 3 => 3 | 37 => 247 | 48 => 270 | 50 => 272 | 4 => 4 | 40 => 264 | 39 => 263 | 45 => 238 | 5 => 5 | 9 => 9 | 51 => 273 | 55 => 277 | 57 => 279 | 58 => 203 | 33 => 72 | n => n, fun | n => n⟩
theorem Tryz.sortedA : Go.Proofs.SlLaysZI.n6 Tryz.prog Tryz.sortedA_ren := {
  mixed := by kernel_rfl
  f6 := ⟨Tryz.f150.name, by decide, Tryz.func150.trans (congrArg some (by kernel_rfl))⟩
  f8 := ⟨Tryz.f158.name, by decide, Tryz.func158.trans (congrArg some (by kernel_rfl))⟩
  f11 := ⟨Tryz.f163.name, by decide, Tryz.func163.trans (congrArg some (by kernel_rfl))⟩
  t0 := Tryz.underlying0
  a0 := Tryz.isAgg0
  z0 := Tryz.sizeOf0
  v0 := Tryz.zeroValue0
  t24 := Tryz.underlying22
  a24 := Tryz.isAgg22
  z24 := Tryz.sizeOf22
  v24 := Tryz.zeroValue22
  t26 := Tryz.underlying3
  a26 := Tryz.isAgg3
  z26 := Tryz.sizeOf3
  v26 := Tryz.zeroValue3
  t28 := Tryz.underlying250
  a28 := Tryz.isAgg250
  z28 := Tryz.sizeOf250
  v28 := Tryz.zeroValue250
  i26 := by kernel_rfl }
def Tryz.sortA_ren : Go.Shelf.Ren := ⟨fun | 5 => 159 | 8 => 165 | 7 => 164 | 19 => 176 | 20 => 177 | 10 => 167 | 11 => 168 | 12 => 169 | 13 => 170 | 14 => 171 | 15 => 172 | 16 => 173 | 17 => 174 | 18 => 175 | 30 => 178 | 31 => 179 | 32 => 180 | 33 => 181 | 34 => 182 | 35 => 118 | 40 => 183 | n => n, fun | 23 => 22 | 25 => 3 | 3 => 3 | 32 => 247 | 22 => 22 | 0 => 0 | 44 => 270 | 46 => 272 | 4 => 4 | 36 => 264 | 35 => 263 | 41 => 238 | 5 => 5 | 9 => 9 | 53 => 273 | 57 => 277 | 63 => 279 | 64 => 203 | n => n, fun | n => n⟩
theorem Tryz.sortA : Go.Proofs.SlLaysM.n5 Tryz.prog Tryz.sortA_ren := {
  mixed := by kernel_rfl
  f5 := ⟨Tryz.f159.name, by decide, Tryz.func159.trans (congrArg some (by kernel_rfl))⟩
  f7 := ⟨Tryz.f164.name, by decide, Tryz.func164.trans (congrArg some (by kernel_rfl))⟩
  f8 := Tryz.func165.trans (congrArg some (by kernel_rfl))
  f10 := ⟨Tryz.f167.name, by decide, Tryz.func167.trans (congrArg some (by kernel_rfl))⟩
  f11 := ⟨Tryz.f168.name, by decide, Tryz.func168.trans (congrArg some (by kernel_rfl))⟩
  f12 := ⟨Tryz.f169.name, by decide, Tryz.func169.trans (congrArg some (by kernel_rfl))⟩
  f13 := ⟨Tryz.f170.name, by decide, Tryz.func170.trans (congrArg some (by kernel_rfl))⟩
  f14 := ⟨Tryz.f171.name, by decide, Tryz.func171.trans (congrArg some (by kernel_rfl))⟩
  f15 := ⟨Tryz.f172.name, by decide, Tryz.func172.trans (congrArg some (by kernel_rfl))⟩
  f16 := ⟨Tryz.f173.name, by decide, Tryz.func173.trans (congrArg some (by kernel_rfl))⟩
  f17 := ⟨Tryz.f174.name, by decide, Tryz.func174.trans (congrArg some (by kernel_rfl))⟩
  f18 := ⟨Tryz.f175.name, by decide, Tryz.func175.trans (congrArg some (by kernel_rfl))⟩
  f19 := Tryz.func176.trans (congrArg some (by kernel_rfl))
  f20 := Tryz.func177.trans (congrArg some (by kernel_rfl))
  f30 := ⟨Tryz.f178.name, by decide, Tryz.func178.trans (congrArg some (by kernel_rfl))⟩
  f31 := Tryz.func179.trans (congrArg some (by kernel_rfl))
  f32 := Tryz.func180.trans (congrArg some (by kernel_rfl))
  f33 := ⟨Tryz.f181.name, by decide, Tryz.func181.trans (congrArg some (by kernel_rfl))⟩
  f34 := ⟨Tryz.f182.name, by decide, Tryz.func182.trans (congrArg some (by kernel_rfl))⟩
  f35 := ⟨Tryz.f118.name, by decide, Tryz.func118.trans (congrArg some (by kernel_rfl))⟩
  f40 := ⟨Tryz.f183.name, by decide, Tryz.func183.trans (congrArg some (by kernel_rfl))⟩
  t0 := Tryz.underlying0
  a0 := Tryz.isAgg0
  z0 := Tryz.sizeOf0
  v0 := Tryz.zeroValue0
  t3 := Tryz.underlying3
  a3 := Tryz.isAgg3
  z3 := Tryz.sizeOf3
  v3 := Tryz.zeroValue3
  t4 := Tryz.underlying4
  a4 := Tryz.isAgg4
  z4 := Tryz.sizeOf4
  v4 := Tryz.zeroValue4
  t5 := Tryz.underlying5
  a5 := Tryz.isAgg5
  z5 := Tryz.sizeOf5
  v5 := Tryz.zeroValue5
  t9 := Tryz.underlying9
  a9 := Tryz.isAgg9
  z9 := Tryz.sizeOf9
  v9 := Tryz.zeroValue9
  t22 := Tryz.underlying22
  a22 := Tryz.isAgg22
  z22 := Tryz.sizeOf22
  v22 := Tryz.zeroValue22
  t23 := Tryz.underlying22
  a23 := Tryz.isAgg22
  z23 := Tryz.sizeOf22
  v23 := Tryz.zeroValue22
  t25 := Tryz.underlying3
  a25 := Tryz.isAgg3
  z25 := Tryz.sizeOf3
  v25 := Tryz.zeroValue3
  t32 := Tryz.underlying247
  a32 := Tryz.isAgg247
  z32 := Tryz.sizeOf247
  v32 := Tryz.zeroValue247
  t35 := Tryz.underlying263
  a35 := Tryz.isAgg263
  z35 := Tryz.sizeOf263
  v35 := Tryz.zeroValue263
  t36 := Tryz.underlying264
  a36 := Tryz.isAgg264
  z36 := Tryz.sizeOf264
  v36 := Tryz.zeroValue264
  t41 := Tryz.underlying238
  a41 := Tryz.isAgg238
  z41 := Tryz.sizeOf238
  v41 := Tryz.zeroValue238
  t44 := Tryz.underlying270
  a44 := Tryz.isAgg270
  z44 := Tryz.sizeOf270
  v44 := Tryz.zeroValue270
  t46 := Tryz.underlying272
  a46 := Tryz.isAgg272
  z46 := Tryz.sizeOf272
  v46 := Tryz.zeroValue272
  t53 := Tryz.underlying273
  a53 := Tryz.isAgg273
  z53 := Tryz.sizeOf273
  v53 := Tryz.zeroValue273
  t57 := Tryz.underlying277
  a57 := Tryz.isAgg277
  z57 := Tryz.sizeOf277
  v57 := Tryz.zeroValue277
  t63 := Tryz.underlying279
  a63 := Tryz.isAgg279
  z63 := Tryz.sizeOf279
  v63 := Tryz.zeroValue279
  t64 := Tryz.underlying203
  a64 := Tryz.isAgg203
  z64 := Tryz.sizeOf203
  v64 := Tryz.zeroValue203 }
end Go.Proofs
end

section
namespace Go.Proofs.YtpkamfbjgdmmoaaGreat
open Go.RowKit Go.Maps Go.Sort Go.Shelf
set_option linter.unusedVariables false
set_option linter.unusedSimpArgs false

theorem sorted_keys {β : Type} {m : List (Int × β)} (h : SrtK m) {ss : List Int} (hp : ss.Perm (m.map (·.1))) : ss.mergeSort (fun x y => decide (x ≤ y)) = m.map (·.1) := by
  have e : ss.mergeSort leI = (m.map (·.1)).mergeSort leI := mergeSort_of_perm_i hp
  rw [show (fun x y : Int => decide (x ≤ y)) = leI from rfl, e]
  refine List.mergeSort_of_pairwise ?_
  refine List.pairwise_map.2 (h.imp (fun {a b} hab => ?_))
  simp only [leI, decide_eq_true_eq]
  omega

theorem sortsA (m : Nat) : AnyZI.SortsIn Tryz.prog Tryz.sortedA_ren Fence.wide m :=
  ⟨fun blk off cap ss W hH hblk hsz => callsIn_wide.2 (AnyM.slices_Sort_int Tryz.sortA blk off cap ss W hH hblk hsz),
   fun p cap W => callsIn_wide.2 (AnyM.slices_Sort_int_none Tryz.sortA p cap W)⟩

set_option maxHeartbeats 1000000 in
theorem rising_I {β : Type} {c : Cod β} {b : Nat} {m : List (Int × β)} {w : World} (h : MapAt c b m w) (hm : m.length ≤ 1000000) :
    Calls Tryz.prog 156 #[.map (some b)] w fun e w' => ∃ v, e = .returned v ∧ w'.ownsRow w.heap.size 3 1 v m.length (m.map fun x => Value.int .i64 x.1) ∧ (v = .slice none 0 0 ↔ m = []) ∧ Below w.heap.size w w' := by
  refine (callsIn_wide (n := 6)).1 ?_
  have hbl := h.lt
  obtain ⟨nn, D0, hown, h1, h2⟩ := h.own
  have hs := MapAt.size h.srt hown h1
  have hperm := MapAt.keys h.srt hown h1
  have hseq : SeqGives Fence.wide 2 Tryz.prog 166 #[.pointer (some ⟨w.heap.size, 0, none⟩)] encZ (fun ss => ss.Perm (intKeys D0)) (Maps.size D0) (w.alloc (.cells #[.map (some b)] 241)) :=
    AnyZI.keys_gives (ρ := Tryz.keysA_ren) { Tryz.keysA with } Fence.wide _ trivial rfl (by omega) w.heap.size b nn D0 _ (by simp) (by simp) (hown.alloc _)
  have cK : ∀ mb W, CallsIn Fence.wide 5 Tryz.prog 162 #[.map mb] W fun e w' => e = .returned (.func (.func 166) #[] #[.pointer (some ⟨W.heap.size, 0, none⟩)]) ∧ w' = W.alloc (.cells #[.map mb] 241) := fun mb W => AnyZI.keys_in Tryz.keysA Fence.wide 5 trivial rfl mb W
  have cS := AnyZI.sorted_in Tryz.sortedA Fence.wide 5 trivial trivial trivial trivial rfl (by omega) (sortsA _) (enters_of Tryz.func159 (by kernel_rfl) rfl) 166 #[.pointer (some ⟨w.heap.size, 0, none⟩)] trivial (enters_of Tryz.func166 (by kernel_rfl) rfl) _ _ (by rw [hs]; unfold maxLen; omega) (by rw [hs]; omega) _ hseq
  change CallsIn _ _ Tryz.prog 150 _ _ _ at cS
  have hfK : Fence.wide.fn 162 := trivial
  have hfS : Fence.wide.fn 150 := trivial
  have Hd := Lib.hid (And.intro hs (And.intro hperm (And.intro h1 h.srt)))
  clear hs hperm h1 h2 hm
  refine callsIn_of_wp Tryz.func156 rfl trivial ?_ rfl
  simp only [Tryz.ntmps156, List.size_toArray, List.length_cons, List.length_nil, Nat.reduceAdd, Nat.reduceSub, Array.replicate_succ, Array.replicate_zero, List.push_toArray, List.append_toArray, List.nil_append, List.cons_append]
  gi_wp2_with (first
    | (gi_at_call 162; refine (cK _ _).mono ?_; rintro e w' ⟨rfl, rfl⟩)
    | (gi_at_call 150; refine cS.mono ?_; rintro e w' ⟨v, ss, rfl, hS, hrow, hnil, hb⟩)
    | fail)
  go_ret
  obtain ⟨hs, hperm, h1, hsrt⟩ := Hd.out
  have hp : ss.Perm (m.map (·.1)) := hS.trans hperm.symm
  have hl : ss.length = m.length := by rw [hp.length_eq]; simp
  have hsk := sorted_keys hsrt hp
  refine ⟨v, rfl, ?_, ?_, ((Below.refl _ w).alloc (Nat.le_refl _) _).trans (hb.mono (by simp))⟩
  · have : w'.ownsRow w.heap.size 3 1 v ss.length ((ss.mergeSort (fun x y => decide (x ≤ y))).map encZ) := ownsRow_base_a hrow (by simp)
    rw [hsk, hl] at this
    simpa [encZ, Function.comp_def] using this
  · rw [hnil, ← List.length_eq_zero_iff, ← List.length_eq_zero_iff, hl]

set_option maxHeartbeats 1000000 in
theorem rising_I_nil (w : World) : Calls Tryz.prog 156 #[.map none] w fun e w' => e = .returned (.slice none 0 0) ∧ Below w.heap.size w w' := by
  refine (callsIn_wide (n := 6)).1 ?_
  have hseq : SeqGives Fence.wide 2 Tryz.prog 166 #[.pointer (some ⟨w.heap.size, 0, none⟩)] encZ (fun ss : List Int => ss = []) 0 (w.alloc (.cells #[.map none] 241)) :=
    AnyZI.keys_gives_nil (ρ := Tryz.keysA_ren) { Tryz.keysA with } Fence.wide _ trivial rfl w.heap.size _ (by simp) (by simp)
  have cK : ∀ mb W, CallsIn Fence.wide 5 Tryz.prog 162 #[.map mb] W fun e w' => e = .returned (.func (.func 166) #[] #[.pointer (some ⟨W.heap.size, 0, none⟩)]) ∧ w' = W.alloc (.cells #[.map mb] 241) := fun mb W => AnyZI.keys_in Tryz.keysA Fence.wide 5 trivial rfl mb W
  have cS := AnyZI.sorted_in Tryz.sortedA Fence.wide 5 trivial trivial trivial trivial rfl (by omega) (sortsA _) (enters_of Tryz.func159 (by kernel_rfl) rfl) 166 #[.pointer (some ⟨w.heap.size, 0, none⟩)] trivial (enters_of Tryz.func166 (by kernel_rfl) rfl) _ 0 (Nat.zero_le _) (by omega) _ hseq
  change CallsIn _ _ Tryz.prog 150 _ _ _ at cS
  have hfK : Fence.wide.fn 162 := trivial
  have hfS : Fence.wide.fn 150 := trivial
  refine callsIn_of_wp Tryz.func156 rfl trivial ?_ rfl
  simp only [Tryz.ntmps156, List.size_toArray, List.length_cons, List.length_nil, Nat.reduceAdd, Nat.reduceSub, Array.replicate_succ, Array.replicate_zero, List.push_toArray, List.append_toArray, List.nil_append, List.cons_append]
  gi_wp2_with (first
    | (gi_at_call 162; refine (cK _ _).mono ?_; rintro e w' ⟨rfl, rfl⟩)
    | (gi_at_call 150; refine cS.mono ?_; rintro e w' ⟨v, ss, rfl, rfl, hrow, hnil, hb⟩; obtain rfl : v = .slice none 0 0 := hnil.2 rfl)
    | fail)
  go_ret
  exact ⟨rfl, ((Below.refl _ w).alloc (Nat.le_refl _) _).trans (hb.mono (by simp))⟩

end Go.Proofs.YtpkamfbjgdmmoaaGreat
end

section
namespace Go.Proofs.YtpkamfbjgdmmoaaGreat
open Go.RowKit
attribute [local go_sem] Oper.semAt_some
set_option linter.unusedVariables false
set_option linter.unusedSimpArgs false

def Is (l : List Int) : List Value := l.map fun x => Value.int .i64 x
/-- Numbers that the call owns. -/
def OwnN (B : Nat) (v : Value) (l : List Int) (w : World) : Prop := w.ownsRow B 3 1 v l.length (Is l)
theorem infoI : (Tryz.prog.info? 3).map (fun i => (i.zero, i.size, i.bytes)) = some (some (.int .i64 0), 1, 8) := by kernel_rfl
theorem OwnN.nil (w : World) (B : Nat) : OwnN B (.slice none 0 0) [] w := World.ownsRow_nil w B _ 1
theorem OwnN.lenOf {B : Nat} {v : Value} {l : List Int} {w : World} (h : OwnN B v l w) : ∃ ao cap, v = .slice ao l.length cap := by
  rcases h.2 with ⟨rfl, e⟩ | ⟨g, cap, cur, rfl, -⟩
  · exact ⟨none, 0, by rw [e]⟩
  · exact ⟨_, _, rfl⟩
theorem OwnN.block {B : Nat} {v : Value} {l : List Int} {w : World} (h : OwnN B v l w) {k : Nat} (hk : v.ownBlock = some k) : B ≤ k ∧ k < w.heap.size := World.ownsRow.lt h k hk
theorem OwnN.of {B S' : Nat} {v : Value} {l : List Int} {w w' : World} (h : OwnN B v l w) (hS : S' ≤ B) (hk : ∀ k, v.ownBlock = some k → w'.heap[k]? = w.heap[k]?) : OwnN S' v l w' := by
  obtain ⟨h1, h2⟩ := h
  refine ⟨h1, ?_⟩
  rcases h2 with h2 | ⟨g, cap, cur, rfl, hb, hg, hn, hm, hs, ht⟩
  · exact .inl h2
  · exact .inr ⟨g, cap, cur, rfl, by omega, (hk g rfl).trans hg, hn, hm, hs, ht⟩
section
variable {F : Fence} {nF : Nat} {w : World} {ops : Array Oper} {rest : List Oper} {o : Oper} {a : Act} {Q : Exit → Act → World → Prop}
theorem wplIn_appN_at {s x : Operand} {B ub : Nat} {v : Value} {xs : List Int} {y : Int} (hgd : o.guard = none) (ho : o.op = .call { callee := .builtin .append, args := #[s, x], argTypes := #[22, 22] }) (hs : a.eval s = v) (hx : a.eval x = .slice (some ⟨ub, 0, none⟩) 1 1)
    (hown : OwnN B v xs w) (hc : w.cell? ⟨ub, 0, none⟩ = some (.int .i64 y)) (hlen : xs.length ≤ 100000) (hB : B ≤ w.heap.size)
    (h : ∀ v' w', OwnN B v' (xs ++ [y]) w' → w.grownBy w' v.ownBlock → (v'.ownBlock = v.ownBlock ∨ v'.ownBlock = some w.heap.size) → wpListIn F nF Tryz.prog ops Q rest (a.put o.dst v') w') : wpListIn F nF Tryz.prog ops Q (o :: rest) a w := by
  obtain ⟨i0, hi, hz⟩ := Option.map_eq_some_iff.1 infoI
  simp only [Prod.mk.injEq] at hz
  obtain ⟨hz0, hz1, hz2⟩ := hz
  refine wpListIn_append_own_at _ hgd s x _ ho B 3 i0 (.int .i64 0) 1 8 Tryz.underlying22 hi hz0 hz1 hz2 rfl (by decide) v _ _ hs hown ⟨ub, 0, none⟩ 1 1 [.int .i64 y] hx (by simp)
    (fun j u hj => by
      cases j with
      | zero => simp only [List.getElem?_cons_zero, Option.some.injEq] at hj; subst hj; rw [Addr.add_mid]; exact hc
      | succ j => simp at hj) (by simp [Value.oneCell']) (by unfold maxLen; omega) (by omega) hB ?_
  intro v' w' h1 h2 _ h4
  refine h v' w' ?_ h2 h4
  unfold OwnN
  rw [List.length_append]
  simpa [Is] using h1
end
/-- Numbers that are only read. -/
def RdN (w : World) (v : Value) (l : List Int) : Prop := ∃ ao cap, v = .slice ao l.length cap ∧ ∀ i (hi : i < l.length), ∃ b off, ao = some ⟨b, off, none⟩ ∧ w.cell? ⟨b, off + i, none⟩ = some (.int .i64 l[i]) ∧ b < w.heap.size
theorem RdN.below {w w' : World} {v : Value} {l : List Int} (h : RdN w v l) (hb : Below w.heap.size w w') : RdN w' v l := by
  obtain ⟨ao, cap, e, h2⟩ := h
  refine ⟨ao, cap, e, fun i hi => ?_⟩
  obtain ⟨b, off, e1, e2, e3⟩ := h2 i hi
  exact ⟨b, off, e1, (World.cell?_of_block (a := ⟨b, off + i, none⟩) (hb.block b e3)).trans e2, Nat.lt_of_lt_of_le e3 hb.size⟩
theorem OwnN.reads {B : Nat} {v : Value} {l : List Int} {w : World} (h : OwnN B v l w) : RdN w v l := by
  have h0 := h
  obtain ⟨hl, h2⟩ := h
  rcases h2 with ⟨rfl, e⟩ | ⟨g, cap, cur, rfl, _, hg, _, _, hs, ht⟩
  · exact ⟨none, 0, by rw [e], fun i hi => by omega⟩
  · refine ⟨some ⟨g, 0, none⟩, cap, rfl, fun i hi => ⟨g, 0, rfl, ?_, (h0.block rfl).2⟩⟩
    rw [World.cell?, hg]
    have h1 : (Is l)[i]? = some (.int .i64 l[i]) := by simp [Is, hi]
    rw [← ht, List.getElem?_take_of_lt (by omega)] at h1
    simpa using h1
end Go.Proofs.YtpkamfbjgdmmoaaGreat
end
