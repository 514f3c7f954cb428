/-
  A table of two numbers: Set and Del.
-/
import Derived.Test.YtjmaeiphjjjdoaaGrG
namespace Go.Proofs.Ytjmaeiphjjjdoaa
open Go.RowKit Go.Maps
set_option linter.unusedVariables false
set_option linter.unusedSimpArgs false

/-- What a change of a table leaves. -/
def GrTo {β : Type} (c : Cod β) (T : TypeId) (g : Nat) (M : Cls β) (F : FP) (w w' : World) : Prop :=
  ∃ F', GrAt c T g M F' w' ∧ (∀ k, F' k → F k ∨ w.heap.size ≤ k) ∧ Only F (fun _ => False) w w'
theorem cells3 {w : World} {g : Nat} {T : TypeId} {u0 u1 u2 : Value} (h : w.heap[g]? = some (.cells #[u0, u1, u2] T (0, 0))) :
    w.cell? ⟨g, 0, none⟩ = some u0 ∧ w.cell? ⟨g, 1, none⟩ = some u1 ∧ w.cell? ⟨g, 2, none⟩ = some u2 ∧ w.frozen? ⟨g, 0, none⟩ = false ∧ w.frozen? ⟨g, 1, none⟩ = false ∧ w.frozen? ⟨g, 2, none⟩ = false := by
  refine ⟨by rw [World.cell?, h]; rfl, by rw [World.cell?, h]; rfl, by rw [World.cell?, h]; rfl, ?_, ?_, ?_⟩ <;> simp [World.frozen?, h]
theorem set3 {w : World} {g : Nat} {T : TypeId} {u0 u1 u2 u : Value} (h : w.heap[g]? = some (.cells #[u0, u1, u2] T (0, 0))) :
    (w.setCell ⟨g, 0, none⟩ u).heap[g]? = some (.cells #[u, u1, u2] T (0, 0)) ∧ (w.setCell ⟨g, 1, none⟩ u).heap[g]? = some (.cells #[u0, u, u2] T (0, 0)) ∧ (w.setCell ⟨g, 2, none⟩ u).heap[g]? = some (.cells #[u0, u1, u] T (0, 0)) := by
  have hlt : g < w.heap.size := (Array.getElem?_eq_some_iff.1 h).1
  have hg := (Array.getElem?_eq_some_iff.1 h).2
  refine ⟨?_, ?_, ?_⟩ <;> simp [World.setCell, Array.getElem?_modify, h]
theorem only_set {w : World} {g o : Nat} {u : Value} {Ψ : FP} (h : Ψ g) : Only Ψ (fun _ => False) w (w.setCell ⟨g, o, none⟩ u) :=
  ⟨⟨rfl, rfl, rfl, by simp [World.setCell]⟩, fun k hk h1 _ => Below.heap_setCell _ _ _ k (fun e => h1 (by subst e; exact h))⟩
theorem map_ne {w : World} {g k : Nat} {T : TypeId} {cs : Array Value} {es : Array MapEntry} {cl : Nat} (h : w.heap[g]? = some (.cells cs T (0, 0))) (hk : w.heap[k]? = some (.map es cl)) : k ≠ g := by
  rintro rfl
  rw [h] at hk; cases hk
theorem set_block {w : World} {g o k : Nat} {u : Value} (h : k ≠ g) : (w.setCell ⟨g, o, none⟩ u).heap[k]? = w.heap[k]? := Below.heap_setCell _ _ _ k h
section
variable {β : Type} {c : Cod β} {B C : Nat} {rm cm : List (Int × Option Nat)} {M : Cls β} {w w' : World}
theorem MapsAt.block (h : MapsAt c B C rm cm M w) (hb : ∀ k, oblk B rm k ∨ oblk C cm k → w'.heap[k]? = w.heap[k]?) : MapsAt c B C rm cm M w' :=
  ⟨h.row.block (fun k hk => hb k (.inl hk)), h.col.block (fun k hk => hb k (.inr hk)), h.off⟩
theorem MapsAt.notg {g : Nat} {T : TypeId} {cs : Array Value} (h : MapsAt c B C rm cm M w) (hg : w.heap[g]? = some (.cells cs T (0, 0))) {k : Nat} (hk : oblk B rm k ∨ oblk C cm k) : k ≠ g := by
  rcases hk with hk | hk
  · obtain ⟨es, cl, he⟩ := h.row.isMap hk
    exact map_ne hg he
  · obtain ⟨es, cl, he⟩ := h.col.isMap hk
    exact map_ne hg he
theorem MapsAt.set {g o : Nat} {T : TypeId} {cs : Array Value} {u : Value} (h : MapsAt c B C rm cm M w) (hg : w.heap[g]? = some (.cells cs T (0, 0))) : MapsAt c B C rm cm M (w.setCell ⟨g, o, none⟩ u) :=
  h.block (fun k hk => set_block (h.notg hg hk))
/-- Both sides are changed, the columns first. -/
theorem maps_to {g : Nat} {T : TypeId} {F : FP} {M' : Cls β} {w0 w1 w2 w3 : World} {n : Int} (h0 : Only F (fun _ => False) w0 w1)
    (hg : w1.heap[g]? = some (.cells #[.map (some B), .map (some C), .int .i64 n] T (0, 0))) (hM : MapsAt c B C rm cm M w1) (hs : SrtC M') (hn : n = M'.length) (hF : F g) (hFl : ∀ k, F k → k < w0.heap.size) (hF1 : ∀ k, oblk B rm k → F k ∨ w0.heap.size ≤ k) (hF2 : ∀ k, oblk C cm k → F k ∨ w0.heap.size ≤ k)
    (hc : OutTo codU C cm (colU M') w1 w2) (hr : ∀ h2 : OutAt c B rm (rowOf M) w2, OutTo c B rm (rowOf M') w2 w3) : GrTo c T g M' F w0 w3 := by
  obtain ⟨cm', c1, c2, c3⟩ := hc
  have hrow2 : OutAt c B rm (rowOf M) w2 := hM.row.block (fun k hk => c2.block k (hM.row.lt hk) (hM.off k hk) (fun h => h))
  obtain ⟨rm', r1, r2, r3⟩ := hr hrow2
  have hglt : g < w1.heap.size := (Array.getElem?_eq_some_iff.1 hg).1
  have hcol3 : OutAt codU C cm' (colU M') w3 := c1.block (fun k hk => r2.block k (c1.lt hk) (fun hk' => by
    rcases c3 k hk with h | h
    · exact hM.off k hk' h
    · have := hM.row.lt hk'; omega) (fun h => h))
  have hg3 : w3.heap[g]? = some (.cells #[.map (some B), .map (some C), .int .i64 n] T (0, 0)) := by
    rw [r2.block g (Nat.lt_of_lt_of_le hglt c2.grow.size) (fun hk => hM.notg hg (.inl hk) rfl) (fun h => h), c2.block g hglt (fun hk => hM.notg hg (.inr hk) rfl) (fun h => h)]
    exact hg
  have hsz1 := h0.grow.size
  have hsz2 := c2.grow.size
  have hsz3 := r2.grow.size
  have hlt : ∀ k, k < w0.heap.size → ¬ F k → ¬ oblk B rm k ∧ ¬ oblk C cm k := fun k hk hnF =>
    ⟨fun h => (hF1 k h).elim hnF (fun h => by omega), fun h => (hF2 k h).elim hnF (fun h => by omega)⟩
  refine ⟨fun k => F k ∨ (w0.heap.size ≤ k ∧ k < w3.heap.size), ⟨hs, .inl hF, fun k hk => ?_, .inr ⟨B, C, rm', cm', by rw [hg3, hn], ⟨r1, hcol3, fun k hk hk' => ?_⟩, fun k hk => ?_, fun k hk => ?_⟩⟩, fun k hk => hk.imp id (fun h => h.1), ?_⟩
  · rcases hk with h | h
    · have := hFl k h; omega
    · exact h.2
  · have e1 := r3 k hk
    have e2 := c3 k hk'
    have l2 := c1.lt hk'
    rcases e1 with e1 | e1
    · have := hM.row.lt e1
      rcases e2 with e2 | e2
      · exact hM.off k e1 e2
      · omega
    · omega
  · have hl := r1.lt hk
    rcases r3 k hk with h | h
    · exact (hF1 k h).imp id (fun h => ⟨h, hl⟩)
    · exact .inr ⟨by omega, hl⟩
  · have hl := hcol3.lt hk
    rcases c3 k hk with h | h
    · exact (hF2 k h).imp id (fun h => ⟨h, hl⟩)
    · exact .inr ⟨by omega, hl⟩
  · refine ⟨(h0.grow.trans c2.grow).trans r2.grow, fun k hk h1 _ => ?_⟩
    obtain ⟨n1, n2⟩ := hlt k hk h1
    rw [r2.block k (by omega) n1 (fun h => h), c2.block k (by omega) n2 (fun h => h)]
    exact h0.block k hk h1 (fun h => h)
/-- One side is changed, the rows. -/
theorem row_to {g : Nat} {T : TypeId} {F : FP} {M' : Cls β} {w0 w1 w3 : World} {n : Int} (h0 : Only F (fun _ => False) w0 w1)
    (hg : w1.heap[g]? = some (.cells #[.map (some B), .map (some C), .int .i64 n] T (0, 0))) (hM : MapsAt c B C rm cm M w1) (hs : SrtC M') (hn : n = M'.length) (hF : F g) (hFl : ∀ k, F k → k < w0.heap.size) (hF1 : ∀ k, oblk B rm k → F k ∨ w0.heap.size ≤ k) (hF2 : ∀ k, oblk C cm k → F k ∨ w0.heap.size ≤ k)
    (hc : colU M' = colU M) (hr : OutTo c B rm (rowOf M') w1 w3) : GrTo c T g M' F w0 w3 :=
  maps_to h0 hg hM hs hn hF hFl hF1 hF2 ⟨cm, by rw [hc]; exact hM.col, Only.refl _ _ _, fun k hk => .inl hk⟩ (fun _ => hr)
end

set_option maxRecDepth 100000 in
set_option maxHeartbeats 4000000 in
theorem grid_Set_I {g : Nat} {M : Cls Int} {F : FP} {w : World} (h : GrAt codI 80 g M F w) (hlen : M.length ≤ 1000000) {a b : Int} (ha : (Lit.int .i64 a).wf = true) (hb : (Lit.int .i64 b).wf = true) (v : Int) :
    Calls Try.prog 50 #[.pointer (some ⟨g, 0, none⟩), .int .i64 a, .int .i64 b, .int .i64 v] w fun e w' => e = .returned (.tuple #[]) ∧ GrTo codI 80 g (cput M a b v) F w w' := by
  have hu1 : Try.prog.underlying 77 = some (.map 3 87) := Try.underlying77
  have hu2 : Try.prog.underlying 87 = some (.map 3 3) := Try.underlying87
  have hz1 : ∀ w, (zeroValue 87).run Try.prog w = .ok (codM.enc none) w := fun w => Try.zeroValue87 w
  have hz2 : ∀ w, (zeroValue 3).run Try.prog w = .ok (codI.enc (0 : Int)) w := fun w => Try.zeroValue3 w
  have hmm := @run_makeMap Try.prog
  obtain ⟨hs, hFg, hFl, hmem⟩ := h
  have hkey : ∃ (mv : Option Nat) (q : Bool), w.cell? ⟨g, 0, none⟩ = some (.map mv) ∧ (∀ w, (binOp .eql 77 (.map mv) (.map Option.none)).run Try.prog w = .ok (.bool q) w) ∧
      ((q = true ∧ M = [] ∧ w.heap[g]? = some (.cells #[.map none, .map none, .int .i64 0] 80 (0, 0))) ∨
       (q = false ∧ ∃ B C rm cm, w.heap[g]? = some (.cells #[.map (some B), .map (some C), .int .i64 M.length] 80 (0, 0)) ∧ MapsAt codI B C rm cm M w ∧ (∀ k, oblk B rm k → F k) ∧ (∀ k, oblk C cm k → F k))) := by
    rcases hmem with ⟨e, hh⟩ | ⟨B, C, rm, cm, hh, h⟩
    · exact ⟨none, true, (cells3 hh).1, fun w => by kernel_rfl, .inl ⟨rfl, e, hh⟩⟩
    · exact ⟨some B, false, (cells3 hh).1, fun w => by kernel_rfl, .inr ⟨rfl, B, C, rm, cm, hh, h⟩⟩
  obtain ⟨mv, q, kq, hq, hmem⟩ := hkey
  have HM := Lib.hid hmem
  have HFl := Lib.hid hFl
  have HFg := Lib.hid hFg
  clear hmem hFl hFg
  go_enter Try.func50, Try.ntmps50
  go_upto_if 16 with fail
  clear hq kq
  go_cut [] (fun wx => ∃ B C rm cm, wx.heap[g]? = some (.cells #[.map (some B), .map (some C), .int .i64 M.length] 80 (0, 0)) ∧ MapsAt codI B C rm cm M wx ∧ Only F (fun _ => False) w wx ∧ (∀ k, oblk B rm k → F k ∨ w.heap.size ≤ k) ∧ (∀ k, oblk C cm k → F k ∨ w.heap.size ≤ k))
  case first =>
    rcases HM.out with ⟨rfl, e, hh⟩ | ⟨rfl, B, C, rm, cm, hh, hM, h1, h2⟩
    · obtain ⟨k0, k1, k2, f0, f1, f2⟩ := cells3 hh
      have hglt : g < w.heap.size := (Array.getElem?_eq_some_iff.1 hh).1
      have HH := Lib.hid hh
      have HGL := Lib.hid hglt
      have HE := Lib.hid e
      clear hh e
      go_wp2_with fail
      go_meet
      obtain rfl := HE.out
      obtain ⟨v0, hv0⟩ : ∃ v0, v0 = (w.setCell ⟨g, 0, none⟩ (.map (some w.heap.size))).setCell ⟨g, 1, none⟩ (.map (some (w.heap.size + 1))) := ⟨_, rfl⟩
      have hvs : v0.heap.size = w.heap.size := by rw [hv0]; simp [World.setCell]
      have hg3 : v0.heap[g]? = some (.cells #[.map (some w.heap.size), .map (some (w.heap.size + 1)), .int .i64 0] 80 (0, 0)) := by rw [hv0]; exact (set3 (set3 HH.out).1).2.1
      have hov : Only F (fun _ => False) w v0 := by rw [hv0]; exact only_trans (only_set HFg.out) (only_set HFg.out)
      rw [← hv0]
      clear hv0
      have hr : OutAt codI w.heap.size [] (rowOf []) ((v0.alloc (.map #[] 0)).alloc (.map #[] 0)) := by
        have := OutAt.made codI v0
        rw [hvs] at this
        exact (this.block (fun k hk => Below.heap_alloc _ _ k (this.lt hk))).congr (fun _ => rfl)
      have hc : OutAt codU (w.heap.size + 1) [] (colU ([] : Cls Int)) ((v0.alloc (.map #[] 0)).alloc (.map #[] 0)) := by
        have := OutAt.made codU (v0.alloc (.map #[] 0))
        rw [World.size_alloc, hvs] at this
        exact this.congr (fun _ => rfl)
      have hob : ∀ B k, oblk B [] k → k = B := fun B k hk => hk.elim id (fun ⟨a, ha⟩ => by simp [sget] at ha)
      have hM1 : MapsAt codI w.heap.size (w.heap.size + 1) [] [] ([] : Cls Int) ((v0.alloc (.map #[] 0)).alloc (.map #[] 0)) := ⟨hr, hc, fun k hk hk' => by have := hob _ _ hk; have := hob _ _ hk'; omega⟩
      have hg1 : ((v0.alloc (.map #[] 0)).alloc (.map #[] 0)).heap[g]? = some (.cells #[.map (some w.heap.size), .map (some (w.heap.size + 1)), .int .i64 0] 80 (0, 0)) := by
        rw [Below.heap_alloc _ _ g (by simp; omega), Below.heap_alloc _ _ g (by omega)]; exact hg3
      refine ⟨_, _, _, _, hg1, hM1, ?_, fun k hk => .inr ?_, fun k hk => .inr ?_⟩
      · exact only_trans hov (only_trans (only_alloc _) (only_alloc _))
      · have := hob _ _ hk; omega
      · have := hob _ _ hk; omega
    · obtain ⟨k0, k1, k2, f0, f1, f2⟩ := cells3 hh
      have HH := Lib.hid hh
      have HMM := Lib.hid hM
      have H1 := Lib.hid h1
      have H2 := Lib.hid h2
      clear hh hM h1 h2
      go_wp2_with fail
      go_meet
      exact ⟨B, C, rm, cm, HH.out, HMM.out, Only.refl _ _ _, fun k hk => .inl (H1.out k hk), fun k hk => .inl (H2.out k hk)⟩
  case rest =>
    obtain ⟨B, C, rm, cm, hh, hM, ho, h1, h2⟩ := hcut
    obtain ⟨k0, k1, k2, f0, f1, f2⟩ := cells3 hh
    have hrl := outer_length hM.row hs
    have hcl := cols_length hM.col
    have hra := row_length M a
    have hcb := colU_length M b
    have hFl := HFl.out
    have hFg := HFg.out
    obtain ⟨mi, hl1, hl2⟩ : ∃ mi, (Instr.lookup 77 (.map (some B)) (.int .i64 a) false).run Try.prog wc = .ok (.map mi) wc ∧
        (Instr.lookup 87 (.map mi) (.int .i64 b) true).run Try.prog wc = .ok (.tuple #[codI.enc ((cget M a b).getD (0 : Int)), .bool (cget M a b).isSome]) wc := by
      have hl := hM.row.map.look (z0 := none) hu1 (hz1 wc) ha
      cases hsg : sget rm a with
      | none =>
        rw [hsg] at hl
        refine ⟨none, hl, ?_⟩
        have hr := hM.row.isNil hsg
        have : cget M a b = none := by rw [cget, hr]; rfl
        rw [this]
        exact nil_look hu2 (hz2 wc) hb true
      | some x =>
        obtain ⟨b', rfl, _, _, h3⟩ := hM.row.at_ a x hsg
        rw [hsg] at hl
        exact ⟨some b', hl, h3.look_ok hu2 (hz2 wc) hb⟩
    obtain ⟨r, hr⟩ : ∃ r, r = codI.enc ((cget M a b).getD (0 : Int)) := ⟨_, rfl⟩
    rw [← hr] at hl2
    clear hr
    by_cases hsome : (cget M a b).isSome = true
    · -- the cell was there
      rw [hsome] at hl2
      have hcol : colU (cput M a b v) = colU M := by
        rw [← colU_put hs]
        funext j
        split
        · rename_i e; subst e
          obtain ⟨u, hu⟩ := Option.isSome_iff_exists.1 hsome
          refine ((srt_colU hs j).put _ _).ext (srt_colU hs j) (fun x => ?_)
          rw [mem_sput]
          constructor
          · rintro (e | e)
            · subst e; exact mem_colU.2 ⟨u, mem_colOf.2 (hs.get.1 hu)⟩
            · exact e.1
          · intro hx
            by_cases e : x.1 = a
            · exact .inl (by rw [← e])
            · exact .inr ⟨hx, e⟩
        · rfl
      have hn : (M.length : Int) = (cput M a b v).length := by rw [hs.length_put, if_pos hsome]
      have hlay := lay_I hM.row (by unfold maxLen; omega) (a := a) (b := b) (by unfold maxLen; omega) ha hb v
      rw [rowOf_put hs] at hlay
      have HLAY := Lib.hid hlay
      have HL1 := Lib.hid hl1
      have HL2 := Lib.hid hl2
      have HFIN := Lib.hid (And.intro ho (And.intro hh (And.intro hM (And.intro (hs.put a b v) (And.intro hn (And.intro hFg (And.intro hFl (And.intro h1 (And.intro h2 hcol)))))))))
      clear hlay hl1 hl2 ho hh hM hs hn hFg hFl h1 h2 hcol hsome hrl hcl hra hcb hlen ha hb hu1 hu2 hz1 hz2 hmm
      have tok1 : True := trivial
      go_wp2_with (first
        | (at_lookup; have _t := tok1; refine wpl_look rfl _ _ _ _ rfl rfl rfl HL1.out ?_; clear tok1)
        | (at_lookup; refine wpl_look rfl _ _ _ _ rfl rfl rfl HL2.out ?_)
        | (go_at_call 62; refine HLAY.out.mono ?_; rintro e w2 ⟨rfl, hout⟩; have HOUT := Lib.hid hout; clear hout)
        | fail)
      refine bodyPost_end (results_none rfl _ _ _) rfl ⟨rfl, ?_⟩
      obtain ⟨ho, hh, hM, hs', hn, hFg, hFl, h1, h2, hcol⟩ := HFIN.out
      exact row_to ho hh hM hs' hn hFg hFl h1 h2 hcol HOUT.out
    · -- it was not
      have hnone : (cget M a b).isSome = false := by simpa using hsome
      rw [hnone] at hl2
      have W1 : IntKind.i64.wrap ((M.length : Int) + 1) = (M.length : Int) + 1 := IntWalk.i64_in _ (by omega)
      obtain ⟨wy, hwy⟩ : ∃ wy, wy = wc.setCell ⟨g, 2, none⟩ (.int .i64 ((M.length : Int) + 1)) := ⟨_, rfl⟩
      have hgy : wy.heap[g]? = some (.cells #[.map (some B), .map (some C), .int .i64 ((M.length : Int) + 1)] 80 (0, 0)) := by rw [hwy]; exact (set3 hh).2.2
      have hMy : MapsAt codI B C rm cm M wy := by rw [hwy]; exact hM.set hh
      have hoy : Only F (fun _ => False) w wy := only_trans ho (by rw [hwy]; exact only_set hFg)
      have hn : (M.length : Int) + 1 = (cput M a b v).length := by rw [hs.length_put, if_neg hsome]; simp
      have hlayC := lay_U hMy.col (by unfold maxLen; omega) (a := b) (b := a) (by unfold maxLen; omega) hb ha ()
      rw [colU_put hs a b v] at hlayC
      have hlayR : ∀ w2, OutAt codI B rm (rowOf M) w2 → Calls Try.prog 62 #[.map (some B), .int .i64 a, .int .i64 b, .int .i64 v] w2 fun e w' => e = .returned (.tuple #[]) ∧ OutTo codI B rm (rowOf (cput M a b v)) w2 w' := fun w2 h2 => by
        have := lay_I h2 (by unfold maxLen; omega) (a := a) (b := b) (by unfold maxLen; omega) ha hb v
        rw [rowOf_put hs] at this
        exact this
      have hkeep : ∀ w2, OutTo codU C cm (colU (cput M a b v)) wy w2 → w2.cell? ⟨g, 0, none⟩ = some (.map (some B)) ∧ OutAt codI B rm (rowOf M) w2 := fun w2 ⟨cm', c1, c2, c3⟩ => by
        have hglt : g < wy.heap.size := (Array.getElem?_eq_some_iff.1 hgy).1
        refine ⟨?_, hMy.row.block (fun k hk => c2.block k (hMy.row.lt hk) (hMy.off k hk) (fun h => h))⟩
        rw [World.cell?_of_block (c2.block g hglt (fun hk => hMy.notg hgy (.inr hk) rfl) (fun h => h))]
        exact (cells3 hgy).1
      rw [hwy] at hlayC hkeep
      have HLC := Lib.hid hlayC
      have HLR := Lib.hid hlayR
      have HKP := Lib.hid hkeep
      have HL1 := Lib.hid hl1
      have HL2 := Lib.hid hl2
      have HW := Lib.hid hwy
      have HFIN := Lib.hid (And.intro hoy (And.intro hgy (And.intro hMy (And.intro (hs.put a b v) (And.intro hn (And.intro hFg (And.intro hFl (And.intro h1 h2))))))))
      clear hlayC hlayR hkeep hl1 hl2 hwy hoy hgy hMy ho hh hM hs hn hFg hFl h1 h2 hsome hnone hrl hcl hra hcb ha hb hu1 hu2 hz1 hz2 hmm
      have tok1 : True := trivial
      go_wp2_with (first
        | (at_lookup; have _t := tok1; refine wpl_look rfl _ _ _ _ rfl rfl rfl HL1.out ?_; clear tok1)
        | (at_lookup; refine wpl_look rfl _ _ _ _ rfl rfl rfl HL2.out ?_)
        | (go_at_call 61; refine HLC.out.mono ?_; rintro e w2 ⟨rfl, hout⟩; obtain ⟨k9, hrow⟩ := HKP.out w2 hout; have HOUT := Lib.hid hout; have HROW := Lib.hid hrow; clear hout hrow)
        | (go_at_call 62; refine (HLR.out _ HROW.out).mono ?_; rintro e w3 ⟨rfl, hout3⟩; have HOUT3 := Lib.hid hout3; clear hout3)
        | fail)
      refine bodyPost_end (results_none rfl _ _ _) rfl ⟨rfl, ?_⟩
      obtain ⟨hoy, hgy, hMy, hs', hn, hFg, hFl, h1, h2⟩ := HFIN.out
      have hc := HOUT.out
      rw [← HW.out] at hc
      exact maps_to hoy hgy hMy hs' hn hFg hFl h1 h2 hc (fun _ => HOUT3.out)

set_option maxRecDepth 100000 in
set_option maxHeartbeats 4000000 in
theorem grid_Del_I {g : Nat} {M : Cls Int} {F : FP} {w : World} (h : GrAt codI 80 g M F w) (hlen : M.length ≤ 1000000) {a b : Int} (ha : (Lit.int .i64 a).wf = true) (hb : (Lit.int .i64 b).wf = true) :
    Calls Try.prog 49 #[.pointer (some ⟨g, 0, none⟩), .int .i64 a, .int .i64 b] w fun e w' => e = .returned (.bool (cget M a b).isSome) ∧ GrTo codI 80 g (cdel M a b) F w w' := by
  have hget := grid_Get_I h ha hb
  obtain ⟨r, hr⟩ : ∃ r, r = codI.enc ((cget M a b).getD (0 : Int)) := ⟨_, rfl⟩
  rw [← hr] at hget
  clear hr
  by_cases hsome : (cget M a b).isSome = true
  · rw [hsome] at hget
    obtain ⟨hs, hFg, hFl, hmem⟩ := h
    obtain ⟨u, hu⟩ := Option.isSome_iff_exists.1 hsome
    have hM0 : M ≠ [] := List.ne_nil_of_mem (hs.get.1 hu)
    obtain ⟨B, C, rm, cm, hh, hM, h1, h2⟩ := hmem.resolve_left (fun h => hM0 h.1)
    obtain ⟨k0, k1, k2, f0, f1, f2⟩ := cells3 hh
    have hpos := List.length_pos_iff.2 hM0
    have hra := row_length M a
    have hcb := colU_length M b
    have hr0 : rowOf M a ≠ [] := List.ne_nil_of_mem ((mem_rowOf (x := (b, u))).2 (hs.get.1 hu))
    have hc0 : colU M b ≠ [] := List.ne_nil_of_mem ((mem_colU (x := (a, ()))).2 ⟨u, (mem_colOf (x := (a, u))).2 (hs.get.1 hu)⟩)
    have W1 : IntKind.i64.wrap ((M.length : Int) - 1) = (M.length : Int) - 1 := IntWalk.i64_in _ (by omega)
    obtain ⟨wy, hwy⟩ : ∃ wy, wy = w.setCell ⟨g, 2, none⟩ (.int .i64 ((M.length : Int) - 1)) := ⟨_, rfl⟩
    have hgy : wy.heap[g]? = some (.cells #[.map (some B), .map (some C), .int .i64 ((M.length : Int) - 1)] 80 (0, 0)) := by rw [hwy]; exact (set3 hh).2.2
    have hMy : MapsAt codI B C rm cm M wy := by rw [hwy]; exact hM.set hh
    have hoy : Only F (fun _ => False) w wy := by rw [hwy]; exact only_set hFg
    have hn : (M.length : Int) - 1 = (cdel M a b).length := by have := hs.length_del a b; rw [if_pos hsome] at this; omega
    have htC := take_U hMy.col (a := b) (b := a) hc0 (by omega) hb ha
    rw [colU_del hs a b] at htC
    have htR : ∀ w2, OutAt codI B rm (rowOf M) w2 → Calls Try.prog 60 #[.map (some B), .int .i64 a, .int .i64 b] w2 fun e w' => e = .returned (.tuple #[]) ∧ OutTo codI B rm (rowOf (cdel M a b)) w2 w' := fun w2 h2 => by
      have := take_I h2 (a := a) (b := b) hr0 (by omega) ha hb
      rw [rowOf_del hs] at this
      exact this
    have hkeep : ∀ w2, OutTo codU C cm (colU (cdel M a b)) wy w2 → w2.cell? ⟨g, 0, none⟩ = some (.map (some B)) ∧ OutAt codI B rm (rowOf M) w2 := fun w2 ⟨cm', c1, c2, c3⟩ => by
      have hglt : g < wy.heap.size := (Array.getElem?_eq_some_iff.1 hgy).1
      refine ⟨?_, hMy.row.block (fun k hk => c2.block k (hMy.row.lt hk) (hMy.off k hk) (fun h => h))⟩
      rw [World.cell?_of_block (c2.block g hglt (fun hk => hMy.notg hgy (.inr hk) rfl) (fun h => h))]
      exact (cells3 hgy).1
    rw [hwy] at htC hkeep
    have HG := Lib.hid hget
    have HLC := Lib.hid htC
    have HLR := Lib.hid htR
    have HKP := Lib.hid hkeep
    have HW := Lib.hid hwy
    have HFIN := Lib.hid (And.intro hoy (And.intro hgy (And.intro hMy (And.intro (hs.del a b) (And.intro hn (And.intro hFg (And.intro hFl (And.intro (fun k hk => Or.inl (b := w.heap.size ≤ k) (h1 k hk)) (fun k hk => Or.inl (b := w.heap.size ≤ k) (h2 k hk))))))))))
    clear htC htR hkeep hwy hoy hgy hMy hh hM hs hn hFg hFl h1 h2 hra hcb ha hb hget hu hM0 hmem hr0 hc0
    rw [hsome]
    clear hsome
    go_enter Try.func49, Try.ntmps49
    go_wp2_with (first
      | (go_at_call 58; refine HG.out.mono ?_; rintro e w2 ⟨rfl, rfl⟩)
      | (go_at_call 59; refine HLC.out.mono ?_; rintro e w2 ⟨rfl, hout⟩; obtain ⟨k9, hrow⟩ := HKP.out w2 hout; have HOUT := Lib.hid hout; have HROW := Lib.hid hrow; clear hout hrow)
      | (go_at_call 60; refine (HLR.out _ HROW.out).mono ?_; rintro e w3 ⟨rfl, hout3⟩; have HOUT3 := Lib.hid hout3; clear hout3)
      | fail)
    go_ret
    refine ⟨rfl, ?_⟩
    obtain ⟨hoy, hgy, hMy, hs', hn, hFg, hFl, h1, h2⟩ := HFIN.out
    have hc := HOUT.out
    rw [← HW.out] at hc
    exact maps_to hoy hgy hMy hs' hn hFg hFl h1 h2 hc (fun _ => HOUT3.out)
  · have hnone : (cget M a b).isSome = false := by simpa using hsome
    have hdel : cdel M a b = M := cdel_none (by simpa using hsome)
    rw [hnone] at hget
    rw [hnone, hdel]
    have HG := Lib.hid hget
    have HH := Lib.hid h
    clear hget h hsome hnone hdel ha hb
    go_enter Try.func49, Try.ntmps49
    go_wp2_with (first
      | (go_at_call 58; refine HG.out.mono ?_; rintro e w2 ⟨rfl, rfl⟩)
      | fail)
    go_ret
    exact ⟨rfl, F, HH.out, fun k hk => .inl hk, Only.refl _ _ _⟩
theorem grid_Del_nil_I (w : World) (a b : Int) : Calls Try.prog 49 #[.pointer none, .int .i64 a, .int .i64 b] w fun e w' => e = .returned (.bool false) ∧ w' = w := by
  have hget := grid_Get_nil_I w a b
  obtain ⟨r, hr⟩ : ∃ r, r = codI.enc (0 : Int) := ⟨_, rfl⟩
  rw [← hr] at hget
  clear hr
  have HG := Lib.hid hget
  clear hget
  go_enter Try.func49, Try.ntmps49
  go_wp2_with (first
    | (go_at_call 58; refine HG.out.mono ?_; rintro e w2 ⟨rfl, rfl⟩)
    | fail)
  go_ret
  exact ⟨rfl, rfl⟩
end Go.Proofs.Ytjmaeiphjjjdoaa
