/-
  All cells of a table, as a way (as long as nothing is done meanwhile).
-/
import Derived.Test.YtlfngdfbimcjhaaGrW
namespace Go.Proofs.Ytlfngdfbimcjhaa
open Go.RowKit Go.Maps Go.Shelf
attribute [local go_sem] Oper.semAt_some
set_option linter.unusedVariables false
set_option linter.unusedSimpArgs false

theorem marks_leave {F : Fence} {n : Nat} {P : Program} {fn : Func} {tmps : Array Value} {R : Ending → World → Prop} : ∀ (Ds : List Nat) (w : World), Ds.Nodup → (∀ D ∈ Ds, w.heap[D]? = some (.deferred (some []))) →
    (∀ w', Grow w w' → (∀ k, k ∉ Ds → w'.heap[k]? = w.heap[k]?) → LeavesIn F n P fn tmps R [] .returning w') → LeavesInM F n P fn tmps R (Ds.map fun D => { target := .collected D, args := #[] }) .returning w
  | [], w, _, _, h => h w (Grow.refl w) (fun _ _ => rfl)
  | D :: Ds, w, hn, hd, h => by
    have hn' := List.nodup_cons.1 hn
    refine ⟨by simp, .inl ⟨D, _, rfl, run_takeDeferred (hd D (by simp)), ?_⟩⟩
    refine marks_leave Ds _ hn'.2 (fun D' hD' => ?_) (fun w' hg hk => h w' ((put_grow w D _).trans hg) (fun k hk' => ?_))
    · rw [put_other (fun e => hn'.1 (by rw [← e]; exact hD'))]
      exact hd D' (List.mem_cons_of_mem _ hD')
    · simp only [List.mem_cons, not_or] at hk'
      rw [hk k hk'.2, put_other hk'.1]
theorem RoundIn.inAny {n m l lp : Nat} {P : Program} {fn : FuncId} {tm : Array Value} {asg bd : Code} {W : World} {R : Ending → World → Prop} (h : RoundIn Fence.wide n P lp fn tm asg bd W R) : RoundIn (Fence.wide.inRound l) m P lp fn tm asg bd W R :=
  ⟨trivial, fun c cs _ => h.2 c cs (room_wide _)⟩
/-- The loops behind. -/
def Marks (lo : Nat) (ds : List Deferred) (Φ : FP) (w : World) : Prop :=
  ∃ Ds : List Nat, ds = Ds.map (fun D => { target := .collected D, args := #[] }) ∧ Ds.Nodup ∧ ∀ D ∈ Ds, lo ≤ D ∧ ¬ Φ D ∧ w.heap[D]? = some (.deferred (some []))
theorem Marks.nil (lo : Nat) (Φ : FP) (w : World) : Marks lo [] Φ w := ⟨[], rfl, List.nodup_nil, fun D h => by cases h⟩
theorem Marks.lt {lo : Nat} {ds : List Deferred} {Φ : FP} {w : World} (h : Marks lo ds Φ w) : True := trivial
theorem Marks.step {lo : Nat} {ds : List Deferred} {Φ Φ' : FP} {w w' : World} (h : Marks lo ds Φ w) {D : Nat} (hlo : lo ≤ D) (hD : w.heap.size ≤ D) (hnD : ¬ Φ' D) (hK : w'.heap[D]? = some (.deferred (some [])))
    (hk : ∀ k, k < w.heap.size → lo ≤ k → ¬ Φ k → w'.heap[k]? = w.heap[k]?) (hΦ : ∀ k, Φ' k → Φ k ∨ w.heap.size ≤ k) : Marks lo ({ target := .collected D, args := #[] } :: ds) Φ' w' := by
  obtain ⟨Ds, rfl, hn, hd⟩ := h
  have hlt : ∀ D' ∈ Ds, D' < w.heap.size := fun D' hD' => (Array.getElem?_eq_some_iff.1 (hd D' hD').2.2).1
  refine ⟨D :: Ds, rfl, List.nodup_cons.2 ⟨fun hm => by have := hlt D hm; omega, hn⟩, fun D' hD' => ?_⟩
  rcases List.mem_cons.1 hD' with rfl | hm
  · exact ⟨hlo, hnD, hK⟩
  · obtain ⟨h1, h2, h3⟩ := hd D' hm
    exact ⟨h1, fun hp => (hΦ D' hp).elim h2 (fun h => by have := hlt D' hm; omega), (hk D' (hlt D' hm) h1 h2).trans h3⟩
/-- The keys of a table's rows, rising. -/
theorem GrAt.rises_all_I {g : Nat} {M : Cls Int} {F : FP} {w : World} (h : GrAt codI 67 g M F w) (hlen : M.length ≤ 100000) :
    ∃ mv ks, w.cell? ⟨g, 0, none⟩ = some (.map mv) ∧ ks.Pairwise (· < ·) ∧ (∀ a, a ∈ ks ↔ rowOf M a ≠ []) ∧ ks.length ≤ M.length ∧
      Calls Try.prog 53 #[.map mv] w (fun e w' => ∃ v, e = .returned v ∧ OwnN w.heap.size v ks w' ∧ Below w.heap.size w w') := by
  obtain ⟨hs, _, _, (⟨rfl, hh⟩ | ⟨B, C, rm, cm, hh, hM, _⟩)⟩ := h
  · refine ⟨none, [], by rw [World.cell?, hh]; rfl, List.Pairwise.nil, fun a => by simp [rowOf], Nat.le_refl _, (rising_M_nil w).mono ?_⟩
    rintro e w' ⟨rfl, hb⟩
    exact ⟨_, rfl, OwnN.nil _ _, hb⟩
  · have hrl := outer_length hM.row hs
    refine ⟨some B, rm.map (·.1), by rw [World.cell?, hh]; rfl, List.pairwise_map.2 (show rm.Pairwise (fun a b => a.1 < b.1) from hM.row.map.srt), hM.row.keys, by rw [List.length_map]; exact hrl, (rising_M hM.row.map (by omega)).mono ?_⟩
    rintro e w' ⟨v, rfl, ho, _, hb⟩
    refine ⟨v, rfl, ?_, hb⟩
    unfold OwnN Is
    rw [List.length_map, List.map_map]
    exact ho
/-- One row's cells. -/
def cellsOf (M : Cls Int) (a : Int) : Cls Int := (rowOf M a).map (fun x => ((a, x.1), x.2))
def upTo (M : Cls Int) (ks : List Int) : Cls Int := ks.flatMap (cellsOf M)
theorem upTo_snoc (M : Cls Int) (ks : List Int) (a : Int) : upTo M (ks ++ [a]) = upTo M ks ++ cellsOf M a := by simp [upTo]
theorem cellsOf_take {M : Cls Int} {a : Int} {pre : List (Int × Int)} {x : Int × Int} (h : pre ++ [x] <+: rowOf M a) : pre.map (fun y => ((a, y.1), y.2)) ++ [((a, x.1), x.2)] <+: cellsOf M a := by
  obtain ⟨t, ht⟩ := h
  refine ⟨t.map (fun y => ((a, y.1), y.2)), ?_⟩
  unfold cellsOf
  rw [← ht]
  simp
/-- What the loop within holds. -/
def CelI (Φ0 : FP) (base yb ab : Nat) (lp : Nat) (a : Int) (J : Cls Int → FP → World → Prop) (done : Cls Int) (pre : List (Int × Int)) (Φ : FP) (W' : World) : Prop :=
  ∃ Φo, J (done ++ pre.map (fun y => ((a, y.1), y.2))) Φo W' ∧ (∀ k, Φo k → Φ0 k ∨ base ≤ k) ∧ (∀ k, Φ k ↔ Φo k ∧ base ≤ k) ∧ Boxed W' yb 87 (.func (.yield lp) #[] #[]) ∧ Boxed W' ab 3 (.int .i64 a) ∧ base ≤ W'.heap.size
theorem CelI.stab {B base yb ab lp : Nat} {Φ0 : FP} {a : Int} {J : Cls Int → FP → World → Prop} {done : Cls Int} (hJ : Stab B J) (hB : B ≤ base) (hy : yb < base) (ha : ab < base) : Stab base (CelI Φ0 base yb ab lp a J done) := by
  rintro pre Φ W' ⟨Φo, hj, ho, hi, hb1, hb2, hs⟩
  obtain ⟨h1, h2, h3⟩ := hJ _ _ _ hj
  refine ⟨fun k hk => ⟨((hi k).1 hk).2, (h1 k ((hi k).1 hk).1).2⟩, hs, fun W'' hg hk => ⟨Φo, h3 W'' hg (fun k hk' => ?_), ho, hi, (hk yb (.inl hy)).trans hb1, (hk ab (.inl ha)).trans hb2, Nat.le_trans hs hg.size⟩⟩
  rcases hk' with h | h
  · exact hk k (.inl (by omega))
  · by_cases hb : k < base
    · exact hk k (.inl hb)
    · exact hk k (.inr ((hi k).2 ⟨h, by omega⟩))
/-- .. where it was left. -/
def CelX (Φ0 : FP) (base : Nat) (a : Int) (Jx : Cls Int → FP → World → Prop) (done : Cls Int) (c : Code) (pre : List (Int × Int)) (Φ : FP) (W' : World) : Prop :=
  c = .ret ∧ ∃ Φo, Jx (done ++ pre.map (fun y => ((a, y.1), y.2))) Φo W' ∧ (∀ k, Φo k → Φ0 k ∨ base ≤ k) ∧ (∀ k, Φ k ↔ Φo k ∧ base ≤ k) ∧ base ≤ W'.heap.size
theorem CelX.stab {B base : Nat} {Φ0 : FP} {a : Int} {J : Cls Int → FP → World → Prop} {done : Cls Int} (hJ : Stab B J) (hB : B ≤ base) (c : Code) : Stab base (CelX Φ0 base a J done c) := by
  rintro pre Φ W' ⟨hcc, Φo, hj, ho, hi, hs⟩
  obtain ⟨h1, h2, h3⟩ := hJ _ _ _ hj
  refine ⟨fun k hk => ⟨((hi k).1 hk).2, (h1 k ((hi k).1 hk).1).2⟩, hs, fun W'' hg hk => ⟨hcc, Φo, h3 W'' hg (fun k hk' => ?_), ho, hi, Nat.le_trans hs hg.size⟩⟩
  rcases hk' with h | h
  · exact hk k (.inl (by omega))
  · by_cases hb : k < base
    · exact hk k (.inl hb)
    · exact hk k (.inr ((hi k).2 ⟨h, by omega⟩))

set_option maxHeartbeats 4000000 in
set_option maxRecDepth 100000 in
theorem cells_iter_I (m : Nat) (bx g : Nat) (M : Cls Int) (F : FP) (w : World) (hbx : w.cell? ⟨bx, 0, none⟩ = some (.pointer (some ⟨g, 0, none⟩))) (h : GrAt codI 67 g M F w) (hlen : M.length ≤ 100000)
    (G : FP) (hGb : G bx) (hGF : ∀ k, F k → G k) :
    Iter Try.prog (m + 1) 52 #[.pointer (some ⟨bx, 0, none⟩)] encs_P M G w := by
  intro lp B Ψ J Jx Φ0 W hgw hG hΨ hΦ0 hJ hJx hround h0
  have hc1 : W.cell? ⟨bx, 0, none⟩ = some (.pointer (some ⟨g, 0, none⟩)) := (World.cell?_of_block (hG bx hGb).2).trans hbx
  have hbxW : bx < W.heap.size := by have := (hG bx hGb).1; have := hgw.size; omega
  have hW : GrAt codI 67 g M F W := h.keep hgw (fun k hk => (hG k (hGF k hk)).2)
  obtain ⟨W1, hW1⟩ : ∃ W1, W1 = W.alloc (.cells #[.func (.yield lp) #[] #[]] 87) := ⟨_, rfl⟩
  have hB1 : Below W.heap.size W W1 := by rw [hW1]; exact (Below.refl _ W).alloc (Nat.le_refl _) _
  have hs1' : W1.heap.size = W.heap.size + 1 := by rw [hW1]; simp
  have hby : Boxed W1 W.heap.size 87 (.func (.yield lp) #[] #[]) := by rw [hW1]; exact Boxed.new W _ _
  have hg1 : GrAt codI 67 g M F W1 := hW.keep (Grow.of_below hB1) (fun k hk => hB1.block k (hW.2.2.1 k hk))
  obtain ⟨mv, ks, hcm, hsk, hmem, hkl, hrise⟩ := hg1.rises_all_I hlen
  have hcb : W1.cell? ⟨bx, 0, none⟩ = some (.pointer (some ⟨g, 0, none⟩)) := (World.cell?_of_block (hB1.block bx hbxW)).trans hc1
  obtain ⟨hs1, hs2, hs3⟩ := hJ _ _ _ h0
  have hflat : upTo M ks = M := hW.1.flat hsk hmem
  have mixed : Try.prog.follows .mixedOrders = true := by kernel_rfl
  refine callsIn_of_wp_marks Try.func52 rfl trivial ?_ rfl
  simp only [Try.ntmps52, List.size_toArray, List.length_cons, List.length_nil, Nat.reduceAdd, Nat.reduceSub, Array.replicate_succ, Array.replicate_zero, List.push_toArray, List.append_toArray, List.nil_append, List.cons_append]
  rw [hW1] at hcm hcb hrise
  have hbig : (ks.length : Int) ≤ 100000 := by omega
  have HW := Lib.hid (And.intro hg1 (And.intro hB1 (And.intro hby (And.intro hW1 hs1'))))
  have HRS := Lib.hid hrise
  have HRD := Lib.hid hround
  have HJ := Lib.hid (And.intro hJ hJx)
  have HP := Lib.hid hΨ
  have HP0 := Lib.hid hΦ0
  have HG := Lib.hid hG
  have HGF := Lib.hid (And.intro hGb hGF)
  have HH0 := Lib.hid h0
  have HS3 := Lib.hid hs3
  have HS1 := Lib.hid hs1
  have HK := Lib.hid (And.intro hsk (And.intro hmem hflat))
  have HL := Lib.hid hlen
  have HC := Lib.hid hc1
  clear hg1 hB1 hby hW1 hs1' hW hrise hround hJ hJx hG hΨ hΦ0 hbx hGb hGF h0 hs1 hs3 h hsk hmem hflat hlen hkl hc1
  gi_wp2_with (first
    | (gi_at_call 53; refine (callsIn_wide.2 HRS.out).mono ?_; rintro e wc ⟨vc, rfl, hoc, hbc⟩; obtain ⟨co, ccap, rfl⟩ := hoc.lenOf; have HOC := Lib.hid hoc; have HBC := Lib.hid hbc; clear hoc hbc)
    | (refine ⟨trivial, ?_⟩; gi_at_call 53; refine (callsIn_wide.2 HRS.out).mono ?_; rintro e wc ⟨vc, rfl, hoc, hbc⟩; obtain ⟨co, ccap, rfl⟩ := hoc.lenOf; have HOC := Lib.hid hoc; have HBC := Lib.hid hbc; clear hoc hbc)
    | fail)
  have hcs : W.heap.size + 1 ≤ wc.heap.size := by have := HBC.out.size; rw [World.size_alloc] at this; exact this
  have hbc' : Below W.heap.size W wc := by
    have h1 := HW.out.2.1
    have h2 := HBC.out
    rw [← HW.out.2.2.2.1] at h2
    exact h1.trans (h2.mono h1.size)
  have hwcy : Boxed wc W.heap.size 87 (.func (.yield lp) #[] #[]) := by
    have h2 := HBC.out
    rw [← HW.out.2.2.2.1] at h2
    exact (h2.block _ (by have := HW.out.2.2.2.2; omega)).trans HW.out.2.2.1
  have hwcg : GrAt codI 67 g M F wc := by
    have h2 := HBC.out
    rw [← HW.out.2.2.2.1] at h2
    exact HW.out.1.keep (Grow.of_below h2) (fun k hk => h2.block k (HW.out.1.2.2.1 k hk))
  have hoc' : OwnN (W.heap.size + 1) (.slice co ks.length ccap) ks wc := by
    have := HOC.out; rw [World.size_alloc] at this; exact this
  have HO1 := Lib.hid (Only.of_later (Ψ := Ψ) (Φ := Φ0) hbc')
  have hJc : J [] Φ0 wc := HS3.out wc (Grow.of_below hbc') (fun k hk => hbc'.block k (hk.elim (fun h => by omega) (fun h => (HS1.out k h).2)))
  have HJC := Lib.hid hJc
  have hFW : ∀ k, F k → k < W.heap.size := fun k hk => by have := (HG.out k (HGF.out.2 k hk)).1; have := hgw.size; omega
  have hkeep : ∀ wr, Only Ψ Φ0 wc wr → OwnN (W.heap.size + 1) (.slice co ks.length ccap) ks wr ∧ GrAt codI 67 g M F wr ∧ wr.cell? ⟨bx, 0, none⟩ = some (.pointer (some ⟨g, 0, none⟩)) ∧ Boxed wr W.heap.size 87 (.func (.yield lp) #[] #[]) := fun wr ho => by
    have hgk : ∀ k, G k → wr.heap[k]? = W.heap[k]? := fun k hk => by
      have hkW : k < W.heap.size := by have := (HG.out k hk).1; have := hgw.size; omega
      rw [ho.block k (by omega) (fun h => (HP.out k h).2 hk) (fun h => HP0.out k h hk)]
      exact hbc'.block k hkW
    have hge : ∀ k, W.heap.size ≤ k → k < wc.heap.size → wr.heap[k]? = wc.heap[k]? := fun k h1 h2 => ho.block k h2 (fun h => by have := (HP.out k h).1; omega) (fun h => by have := (HS1.out k h).2; omega)
    refine ⟨hoc'.of (Nat.le_refl _) (fun k hk => hge k (by have := (hoc'.block hk).1; omega) (hoc'.block hk).2), hwcg.keep ho.grow (fun k hk => ?_), (World.cell?_of_block (hgk bx HGF.out.1)).trans HC.out, (hge _ (Nat.le_refl _) (by omega)).trans hwcy⟩
    rw [hgk k (HGF.out.2 k hk), hbc'.block k (hFW k hk)]
  have HKP := Lib.hid hkeep
  have HFW := Lib.hid hFW
  have HBC' := Lib.hid hbc'
  clear hkeep hJc hbc' hwcy hwcg hoc' hFW
  refine wpIn_loop (fun a wr => ∃ (k : Nat) (Φ : FP) (ds : List Deferred) (u4 u16 u17 u18 u19 u20 u21 u31 : Value), a = { tmps := #[.func (.yield lp) #[] #[], .pointer (some ⟨bx, 0, none⟩), .pointer (some ⟨W.heap.size, 0, none⟩), undef, u4, undef, undef, .pointer (some ⟨g, 0, none⟩), .bool false, .pointer (some ⟨g, 0, none⟩), .pointer (some ⟨g, 0, none⟩), .pointer (some ⟨g, 0, none⟩), .map mv, .slice co ks.length ccap, .int .i64 ks.length, .int .i64 k, u16, u17, u18, u19, u20, u21, undef, undef, undef, undef, undef, undef, undef, undef, undef, u31], defers := ds } ∧ k ≤ ks.length ∧ J (upTo M (ks.take k)) Φ wr ∧ Only Ψ Φ0 wc wr ∧ (∀ j, Φ j → Φ0 j ∨ wc.heap.size ≤ j) ∧ Marks wc.heap.size ds Φ wr) (fun a _ => ks.length - (RowKit.intOf (a.tmps.getD 15 undef)).toNat) ?_ ?_
  · exact ⟨0, Φ0, [], _, _, _, _, _, _, _, _, rfl, Nat.zero_le _, HJC.out, Only.refl _ _ _, fun j h => .inl h, Marks.nil _ _ _⟩
  rintro _ wr ⟨k, Φ, ds, u4, u16, u17, u18, u19, u20, u21, u31, rfl, hk, hJ2, ho2, hn2, hmk⟩
  by_cases hlt : k < ks.length
  · have hlt' : (k : Int) < ks.length := by omega
    obtain ⟨hoW, hGW, cb, byW⟩ := HKP.out wr ho2
    obtain ⟨kb, cap, hv, hcell, hbl, hbu⟩ := hoW.at hlt
    injection hv with hv1 hv2 hv3
    subst hv1
    obtain ⟨y, hy⟩ : ∃ y, y = ks[k] := ⟨_, rfl⟩
    rw [← hy] at hcell
    have hym : y ∈ ks := by rw [hy]; exact List.getElem_mem _
    have hrow : rowOf M y ≠ [] := (HK.out.2.1 y).1 hym
    have hwfy : (Lit.int .i64 y).wf = true := by
      obtain ⟨z, hz⟩ := List.exists_mem_of_ne_nil _ hrow
      exact (hGW.wf (mem_rowOf.1 hz)).1
    have htk : ks.take k ++ [y] = ks.take (k + 1) := by rw [hy]; exact pre_snoc hlt
    have hup : upTo M (ks.take (k + 1)) = upTo M (ks.take k) ++ cellsOf M y := by rw [← htk, upTo_snoc]
    have hupM : upTo M (ks.take (k + 1)) <+: M := by
      have : upTo M ks = upTo M (ks.take (k + 1)) ++ upTo M (ks.drop (k + 1)) := by unfold upTo; rw [← List.flatMap_append, List.take_append_drop]
      rw [HK.out.2.2] at this
      exact ⟨_, this.symm⟩
    obtain ⟨q1, q2, q3⟩ := HJ.out.1 _ _ _ hJ2
    have HT := Lib.hid (And.intro htk (And.intro hup hupM))
    have HO2 := Lib.hid ho2
    have HN2 := Lib.hid hn2
    have HMK := Lib.hid hmk
    have HJ2 := Lib.hid hJ2
    have HQ1 := Lib.hid q1
    have HQ3 := Lib.hid q3
    have HGW := Lib.hid hGW
    have HBY := Lib.hid byW
    have HWY := Lib.hid hwfy
    have hbxr : bx < wr.heap.size := by have := ho2.grow.size; omega
    have cb2 : (wr.alloc (.cells #[.int .i64 y] 3)).cell? ⟨bx, 0, none⟩ = some (.pointer (some ⟨g, 0, none⟩)) := (World.cell?_of_block (Below.heap_alloc _ _ _ hbxr)).trans cb
    clear htk hup hupM q1 q3 hJ2 ho2 hn2 hmk hoW hGW byW hv2 hv3 hy hym hrow hwfy
    gi_wp2_with (first
      | (gi_at_call 34; refine (callsIn_wide.2 (grid_row_I (some ⟨g, 0, none⟩) y _)).mono ?_; rintro e w3 ⟨rfl, hw3⟩)
      | (refine ⟨trivial, ?_⟩; gi_at_call 34; refine (callsIn_wide.2 (grid_row_I (some ⟨g, 0, none⟩) y _)).mono ?_; rintro e w3 ⟨rfl, hw3⟩)
      | fail)
    obtain ⟨v3, hv3⟩ : ∃ v3, v3 = ((wr.alloc (.cells #[.int .i64 y] 3)).alloc (.cells #[.pointer (some ⟨g, 0, none⟩)] 23)).alloc (.cells #[.int .i64 y] 3) := ⟨_, rfl⟩
    rw [← hv3]
    have hB3 : Below wr.heap.size wr v3 := by rw [hv3]; exact (((Below.refl _ wr).alloc (Nat.le_refl _) _).alloc (by simp) _).alloc (by simp; omega) _
    have hs3 : v3.heap.size = wr.heap.size + 3 := by rw [hv3]; simp
    have ba : Boxed v3 wr.heap.size 3 (.int .i64 y) := by rw [hv3]; exact ((Boxed.new wr _ _).alloc _).alloc _
    have b0 : Boxed v3 (wr.heap.size + 1) 23 (.pointer (some ⟨g, 0, none⟩)) := by
      have := Boxed.new (wr.alloc (.cells #[.int .i64 y] 3)) 23 (.pointer (some ⟨g, 0, none⟩))
      rw [World.size_alloc] at this
      rw [hv3]; exact this.alloc _
    have b1 : Boxed v3 (wr.heap.size + 1 + 1) 3 (.int .i64 y) := by
      have := Boxed.new ((wr.alloc (.cells #[.int .i64 y] 3)).alloc (.cells #[.pointer (some ⟨g, 0, none⟩)] 23)) 3 (.int .i64 y)
      rw [World.size_alloc, World.size_alloc] at this
      rw [hv3]; exact this
    have hby3 : Boxed v3 W.heap.size 87 (.func (.yield lp) #[] #[]) := (hB3.block _ (by have := HO2.out.grow.size; omega)).trans HBY.out
    have hg3 : GrAt codI 67 g M F v3 := HGW.out.keep (Grow.of_below hB3) (fun k hk => hB3.block k (HGW.out.2.2.1 k hk))
    have hit : Iter Try.prog m 46 #[.pointer (some ⟨wr.heap.size + 1, 0, none⟩), .pointer (some ⟨wr.heap.size + 1 + 1, 0, none⟩)] (fun x : Int × Int => #[.int .i64 x.1, .int .i64 x.2]) (rowOf M y) (fun k => F k ∨ k = wr.heap.size + 1 ∨ k = wr.heap.size + 1 + 1) v3 :=
      row_iter_I m (wr.heap.size + 1) (wr.heap.size + 1 + 1) g M F y v3 b0.cell b1.cell hg3 HL.out HWY.out _ (.inr (.inl rfl)) (.inr (.inr rfl)) (fun k hk => .inl hk)
    have hJ3 : J (upTo M (ks.take k)) Φ v3 := HQ3.out v3 (Grow.of_below hB3) (fun j hj => hB3.block j (hj.elim (fun h => by have := HO2.out.grow.size; omega) (fun h => (HQ1.out j h).2)))
    have hwr : wc.heap.size ≤ wr.heap.size := HO2.out.grow.size
    have HB3 := Lib.hid hB3
    have HIT := Lib.hid hit
    have HB0 := Lib.hid (And.intro hJ3 (And.intro hby3 ba))
    clear hv3 hB3 b0 b1 hby3 hg3 hit hJ3 ba cb2 cb
    refine range_outer (n := m) (gf := 46) (lb := #[.pointer (some ⟨wr.heap.size + 1, 0, none⟩), .pointer (some ⟨wr.heap.size + 1 + 1, 0, none⟩)]) rfl enters_row1_I HIT.out (Grow.refl _) (fun k hk => ⟨?hG, rfl⟩) (fun _ => rfl)
      (fun k => Ψ k ∨ Φ k) ?hpsi (CelI Φ (wr.heap.size + 3) W.heap.size wr.heap.size lp y J (upTo M (ks.take k))) (CelX Φ (wr.heap.size + 3) y Jx (upTo M (ks.take k))) (by rw [hs3]; exact CelI.stab HJ.out.1 (by omega) (by omega) (by omega)) (fun c => by rw [hs3]; exact CelX.stab HJ.out.2 (by omega) c)
      ?h0 (fun x => { tmps := #[.func (.yield lp) #[] #[], .pointer (some ⟨bx, 0, none⟩), .pointer (some ⟨W.heap.size, 0, none⟩), undef, .pointer (some ⟨wr.heap.size, 0, none⟩), .int .i64 x.1, .int .i64 x.2, .pointer (some ⟨g, 0, none⟩), .bool false, .pointer (some ⟨g, 0, none⟩), .pointer (some ⟨g, 0, none⟩), .pointer (some ⟨g, 0, none⟩), .map mv, .slice (some ⟨kb, 0, none⟩) ks.length ccap, .int .i64 ks.length, .int .i64 k, .bool true, .pointer (some ⟨kb, k, none⟩), .int .i64 y, .pointer (some ⟨g, 0, none⟩), .int .i64 y, .func (.func 46) #[] #[.pointer (some ⟨wr.heap.size + 1, 0, none⟩), .pointer (some ⟨wr.heap.size + 1 + 1, 0, none⟩)], .int .i64 x.1, .int .i64 x.2, undef, undef, undef, undef, undef, undef, undef, u31], defers := [] }) ?assign ?body ?done ?stop
    case hG =>
      rcases hk with h | h | h
      · have := HFW.out k h; omega
      · omega
      · omega
    case hpsi =>
      intro j hj
      rcases hj with h | h
      · obtain ⟨h1, h2⟩ := HP.out j h
        exact ⟨by omega, fun hg => by
          rcases hg with h' | h' | h'
          · exact h2 (HGF.out.2 j h')
          · omega
          · omega⟩
      · have hl := (HQ1.out j h).2
        refine ⟨by omega, fun hg => ?_⟩
        rcases hg with h' | h' | h'
        · rcases HN2.out j h with h'' | h''
          · exact HP0.out j h'' (HGF.out.2 j h')
          · have := HFW.out j h'; omega
        · omega
        · omega
    case h0 => exact ⟨Φ, by simpa using HB0.out.1, fun k h => .inl h, fun k => ⟨fun h => h.elim, fun h => by have := (HQ1.out k h.1).2; omega⟩, HB0.out.2.1, HB0.out.2.2, by omega⟩
    case assign =>
      intro l x W K hK
      gi_wp2
      exact hK
    case body =>
      rintro l pre x Φi W' hpx ⟨Φo, hj, ho, hi, hbY, hbA, hsz⟩ hl hΦl ⟨r, hr⟩
      have hpre : (upTo M (ks.take k) ++ pre.map (fun z => ((y, z.1), z.2))) ++ [((y, x.1), x.2)] <+: M := by
        obtain ⟨t, ht⟩ := cellsOf_take hpx
        obtain ⟨t2, ht2⟩ := HT.out.2.2
        rw [HT.out.2.1, ← ht] at ht2
        exact ⟨t ++ t2, Eq.trans (by simp) ht2⟩
      have hsn : (upTo M (ks.take k) ++ pre.map (fun z => ((y, z.1), z.2))) ++ [((y, x.1), x.2)] = upTo M (ks.take k) ++ (pre ++ [x]).map (fun z => ((y, z.1), z.2)) := by simp
      obtain ⟨fn, tm, asg, bd, hyy, hR⟩ := HRD.out _ ((y, x.1), x.2) Φo W' hpre hj
      simp only [encs_P] at hyy
      have hy1 := hbY.cell
      have hy2 := hbA.cell
      have HBY2 := Lib.hid hbY
      have HBA2 := Lib.hid hbA
      have HSN := Lib.hid hsn
      have HHO := Lib.hid ho
      have HHI := Lib.hid hi
      have HRR := Lib.hid hR
      clear hpre hsn hbY hbA ho hi hR
      gi_wp2
      refine ⟨fun h => by simp [Fence.wide] at h, (RoundIn.inAny HRR.out).mono ?_⟩
      rintro e W3 ⟨Φo', hn, hon, (⟨rfl, hJ'⟩ | ⟨rfl, hJ'⟩)⟩
      · have out : ∀ k, W.heap.size ≤ k → k < wr.heap.size + 3 → ¬ Φ k → W3.heap[k]? = W'.heap[k]? := fun k h1 h2 h3 => hon.block k (by omega) (fun h => by have := (HP.out k h).1; omega) (fun h => (HHO.out k h).elim h3 (fun h => by omega))
        have hno : ∀ k, Φo' k → Φ k ∨ wr.heap.size + 3 ≤ k := fun k hk => (hn k hk).elim (HHO.out k) (fun h => .inr (by omega))
        have hYn : ¬ Φ W.heap.size := fun h => (HN2.out _ h).elim (fun h => by have := (HS1.out _ h).2; omega) (fun h => by omega)
        have hAn : ¬ Φ wr.heap.size := fun h => by have := (HQ1.out _ h).2; omega
        have hz3 : W'.heap.size ≤ W3.heap.size := hon.grow.size
        gi_wp2
        refine ⟨fun k => Φo' k ∧ wr.heap.size + 3 ≤ k, fun k hk => (hn k hk.1).elim (fun h => .inl ((HHI.out k).2 ⟨h, hk.2⟩)) .inr, ⟨hon.grow, fun k hk h1 h2 => ?_⟩, Φo', by rw [← HSN.out]; exact hJ', hno, fun k => Iff.rfl, (out _ (Nat.le_refl _) (by omega) hYn).trans HBY2.out, (out _ (by omega) (by omega) hAn).trans HBA2.out, by omega⟩
        refine hon.block k hk (fun h => h1 (.inl h)) (fun h => ?_)
        rcases HHO.out k h with h' | h'
        · exact h1 (.inr h')
        · exact h2 ((HHI.out k).2 ⟨h, h'⟩)
      · have hno : ∀ k, Φo' k → Φ k ∨ wr.heap.size + 3 ≤ k := fun k hk => (hn k hk).elim (HHO.out k) (fun h => .inr (by omega))
        have hz3 : W'.heap.size ≤ W3.heap.size := hon.grow.size
        gi_wp2
        refine ⟨fun k => Φo' k ∧ wr.heap.size + 3 ≤ k, fun k hk => (hn k hk.1).elim (fun h => .inl ((HHI.out k).2 ⟨h, hk.2⟩)) .inr, ⟨hon.grow, fun k hk h1 h2 => ?_⟩, rfl, Φo', by rw [← HSN.out]; exact hJ', hno, fun k => Iff.rfl, by omega⟩
        refine hon.block k hk (fun h => h1 (.inl h)) (fun h => ?_)
        rcases HHO.out k h with h' | h'
        · exact h1 (.inr h')
        · exact h2 ((HHI.out k).2 ⟨h, h'⟩)
    case done =>
      rintro D Φi W3 ⟨Φo, hj, ho, hi, hbY, hbA, hsz⟩ hon hD hnD hK
      have hnDo : ¬ Φo D := fun h => hnD ((hi D).2 ⟨h, by omega⟩)
      have hall : Only Ψ Φ wr W3 := ⟨(Grow.of_below HB3.out).trans hon.grow, fun k hk h1 h2 => by
        rw [hon.block k (by omega) (fun h => h.elim h1 h2) (fun h => h)]
        exact HB3.out.block k hk⟩
      have hOn : ∀ k, Φo k → Φ k ∨ wr.heap.size ≤ k := fun k hk => (ho k hk).imp id (fun h => by omega)
      have HM2 := Lib.hid (HMK.out.step (D := D) (by omega) (by omega) hnDo hK (fun k h1 h2 h3 => hall.block k h1 (fun h => by have := (HP.out k h).1; omega) h3) hOn)
      have HJ3 := Lib.hid hj
      have HO3 := Lib.hid (HO2.out.trans hall HN2.out)
      have HN3 : ∀ j, Φo j → Φ0 j ∨ wc.heap.size ≤ j := fun j hj => (hOn j hj).elim (HN2.out j) (fun h => .inr (by omega))
      have HNH := Lib.hid HN3
      clear hj ho hi hbY hbA hon hnD hK hall hOn HN3 hnDo
      gi_wp2
      refine ⟨⟨k + 1, Φo, _, _, _, _, _, _, _, _, _, by go_num, hlt, ?_, HO3.out, HNH.out, HM2.out⟩, ?_⟩
      · rw [HT.out.2.1]; exact HJ3.out
      · simp [RowKit.intOf]; omega
    case stop =>
      rintro D Φi c pre W3 hpre ⟨rfl, Φo, hj, ho, hi, hsz⟩ hon hD hnD hK
      have hnDo : ¬ Φo D := fun h => hnD ((hi D).2 ⟨h, by omega⟩)
      have hall : Only Ψ Φ wr W3 := ⟨(Grow.of_below HB3.out).trans hon.grow, fun k hk h1 h2 => by
        rw [hon.block k (by omega) (fun h => h.elim h1 h2) (fun h => h)]
        exact HB3.out.block k hk⟩
      have hOn : ∀ k, Φo k → Φ k ∨ wr.heap.size ≤ k := fun k hk => (ho k hk).imp id (fun h => by omega)
      have HM2 := Lib.hid (HMK.out.step (D := D) (by omega) (by omega) hnDo hK (fun k h1 h2 h3 => hall.block k h1 (fun h => by have := (HP.out k h).1; omega) h3) hOn)
      have hpM : (upTo M (ks.take k) ++ pre.map (fun z => ((y, z.1), z.2))) <+: M := by
        obtain ⟨t, ht⟩ := hpre
        obtain ⟨t2, ht2⟩ := HT.out.2.2
        rw [HT.out.2.1] at ht2
        refine ⟨t.map (fun z => ((y, z.1), z.2)) ++ t2, Eq.trans ?_ ht2⟩
        unfold cellsOf
        rw [← ht]
        simp
      have HJ3 := Lib.hid (And.intro hj hpM)
      have HO3 := Lib.hid (HO2.out.trans hall HN2.out)
      have HN3 : ∀ j, Φo j → Φ0 j ∨ wc.heap.size ≤ j := fun j hj => (hOn j hj).elim (HN2.out j) (fun h => .inr (by omega))
      have HNH := Lib.hid HN3
      clear hj ho hi hon hnD hK hall hOn HN3 hnDo hpM hpre
      gi_wp2
      obtain ⟨Ds, hds, hnd, hdd⟩ := HM2.out
      rw [hds]
      refine marks_leave Ds W3 hnd (fun D hD => (hdd D hD).2.2) (fun w' hg hk => ⟨_, results_none rfl _ _ _, ⟨_, rfl⟩, ?_⟩)
      refine ⟨Φo, fun j hj => (HNH.out j hj).imp id (fun h => by omega), ⟨(HO1.out.trans HO3.out (fun j h => .inl h)).grow.trans hg, fun k hk' h1 h2 => ?_⟩, .inr ⟨_, HJ3.out.2, (HJ.out.2 _ _ _ HJ3.out.1).2.2 w' hg (fun k hk' => hk k (fun hm => ?_))⟩⟩
      · rw [hk k (fun hm => by have := (hdd k hm).1; omega)]
        exact (HO1.out.trans HO3.out (fun j h => .inl h)).block k hk' h1 h2
      · rcases hk' with h | h
        · have := (hdd k hm).1; omega
        · exact (hdd k hm).2.1 h
  · have hkn : k = ks.length := by omega
    subst hkn
    rw [List.take_length, HK.out.2.2] at hJ2
    obtain ⟨Ds, rfl, hnd, hds⟩ := hmk
    have hnlt : ¬ ((ks.length : Int) < ks.length) := by omega
    gi_wp2
    refine marks_leave Ds wr hnd (fun D hD => (hds D hD).2.2) (fun w' hg hk => ⟨_, results_none rfl _ _ _, ⟨_, rfl⟩, ?_⟩)
    refine ⟨Φ, fun j hj => (hn2 j hj).imp id (fun h => by omega), ⟨(HO1.out.trans ho2 (fun j h => .inl h)).grow.trans hg, fun k hk' h1 h2 => ?_⟩, .inl ((HJ.out.1 _ _ _ hJ2).2.2 w' hg (fun k hk' => hk k (fun hm => ?_)))⟩
    · rw [hk k (fun hm => by have := (hds k hm).1; omega)]
      exact (HO1.out.trans ho2 (fun j h => .inl h)).block k hk' h1 h2
    · rcases hk' with h | h
      · have := (hds k hm).1; omega
      · exact (hds k hm).2.1 h
end Go.Proofs.Ytlfngdfbimcjhaa
