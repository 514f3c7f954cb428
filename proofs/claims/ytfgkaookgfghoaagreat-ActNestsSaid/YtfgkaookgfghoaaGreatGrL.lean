/-
  grid's lay and take.
-/
import Derived.Test.YtfgkaookgfghoaaGreatGrO
namespace Go.Proofs.YtfgkaookgfghoaaGreat
open Go.RowKit Go.Maps
set_option linter.unusedVariables false
set_option linter.unusedSimpArgs false

theorem sput_ne {β : Type} (m : List (Int × β)) (k : Int) (v : β) : sput m k v ≠ [] := List.ne_nil_of_mem (mem_sput.2 (.inl rfl))
theorem only_grown {w w' : World} {B : Nat} {Ψ : FP} (hg : w.grownBy w' (some B)) (hΨ : Ψ B) : Only Ψ (fun _ => False) w w' :=
  ⟨⟨hg.os, hg.tape, hg.output, hg.size⟩, fun k hk h1 _ => hg.block k hk (fun e => by cases e; exact h1 hΨ)⟩
theorem only_alloc {w : World} (o : Obj) {Ψ : FP} : Only Ψ (fun _ => False) w (w.alloc o) := Only.of_later ((Below.refl _ w).alloc (Nat.le_refl _) o)
theorem only_trans {Ψ : FP} {A B C : World} (h : Only Ψ (fun _ => False) A B) (k : Only Ψ (fun _ => False) B C) : Only Ψ (fun _ => False) A C := h.trans k (fun _ h => h.elim)
/-- What a change of a map of maps leaves. -/
def OutTo {β : Type} (c : Cod β) (B : Nat) (rm : List (Int × Option Nat)) (rows : Int → List (Int × β)) (w w' : World) : Prop :=
  ∃ rm', OutAt c B rm' rows w' ∧ Only (oblk B rm) (fun _ => False) w w' ∧ ∀ k, oblk B rm' k → oblk B rm k ∨ w.heap.size ≤ k
theorem OutTo.alloc {β : Type} {c : Cod β} {B : Nat} {rm : List (Int × Option Nat)} {rows : Int → List (Int × β)} {w w' : World} {o : Obj} (h : OutTo c B rm rows (w.alloc o) w') : OutTo c B rm rows w w' := by
  obtain ⟨rm', h1, h2, h3⟩ := h
  exact ⟨rm', h1, only_trans (only_alloc o) h2, fun k hk => (h3 k hk).imp id (fun h => by simp at h; omega)⟩
theorem oblk_put {B : Nat} {rm : List (Int × Option Nat)} (hs : SrtK rm) {a : Int} {b k : Nat} (h : oblk B (sput rm a (some b)) k) : oblk B rm k ∨ k = b := by
  rcases h with h | ⟨i, hi⟩
  · exact .inl (.inl h)
  · rw [hs.get_put] at hi
    by_cases e : i = a
    · simp [e] at hi; exact .inr hi.symm
    · simp [e] at hi; exact .inl (.inr ⟨i, hi⟩)
theorem oblk_del {B : Nat} {rm : List (Int × Option Nat)} (hs : SrtK rm) {a : Int} {k : Nat} (h : oblk B (sdel rm a) k) : oblk B rm k := by
  rcases h with h | ⟨i, hi⟩
  · exact .inl h
  · rw [hs.get_del] at hi
    by_cases e : i = a
    · simp [e] at hi
    · simp [e] at hi; exact .inr ⟨i, hi⟩

set_option maxRecDepth 100000 in
set_option maxHeartbeats 2000000 in
theorem lay_U {B : Nat} {rm : List (Int × Option Nat)} {rows : Int → List (Int × Unit)} {w : World} (h : OutAt codU B rm rows w) (hn : rm.length < maxLen) {a b : Int} (hra : (rows a).length < maxLen) (ha : (Lit.int .i64 a).wf = true) (hb : (Lit.int .i64 b).wf = true) (v : Unit) :
    Calls Tryz.prog 76 #[.map (some B), .int .i64 a, .int .i64 b, .agg #[]] w fun e w' => e = .returned (.tuple #[]) ∧ OutTo codU B rm (fun i => if i = a then sput (rows a) b v else rows i) w w' := by
  have hmm := @run_makeMap Tryz.prog
  have hu1 : Tryz.prog.underlying 144 = some (.map 3 187) := Tryz.underlying144
  have hu2 : Tryz.prog.underlying 187 = some (.map 3 179) := Tryz.underlying187
  have hz1 : ∀ w, (zeroValue 187).run Tryz.prog w = .ok (codM.enc none) w := fun w => Tryz.zeroValue187 w
  obtain ⟨u, hu⟩ : ∃ u, u = w.alloc (.cells #[] 179) := ⟨_, rfl⟩
  have h : OutAt codU B rm rows u := by rw [hu]; exact h.block (fun k hk => Below.heap_alloc _ _ k (h.lt hk))
  have hout : ∀ rows' w', OutTo codU B rm rows' u w' → OutTo codU B rm rows' w w' := fun rows' w' ho => by rw [hu] at ho; exact ho.alloc
  cases hs : sget rm a with
  | some x =>
    obtain ⟨b', rfl, h1, h2, h3⟩ := h.at_ a x hs
    obtain ⟨w', hr, hm', hg, hsz⟩ := h3.store hu2 hra hb v
    have hl := h.map.look (z0 := none) hu1 (hz1 u) ha
    rw [hs] at hl
    have Hfin : OutTo codU B rm (fun i => if i = a then sput (rows a) b v else rows i) u w' :=
      ⟨rm, h.upd hs (sput_ne _ _ _) hm' hg, only_grown hg (.inr ⟨a, hs⟩), fun k hk => .inl hk⟩
    have Hfin := hout _ _ Hfin
    rw [hu] at hl hr
    have HF := Lib.hid Hfin
    have HL := Lib.hid hl
    have HR := Lib.hid hr
    clear hout Hfin h h1 h2 h3 hs hm' hg hsz hn hra hl hr hmm hu
    have q1 : ∀ bm w, (binOp .eql 187 (.map (some bm)) (.map Option.none)).run Tryz.prog w = .ok (.bool false) w := fun bm w => by kernel_rfl
    have q2 : ∀ w, (binOp .eql 187 (.map Option.none) (.map Option.none)).run Tryz.prog w = .ok (.bool true) w := fun w => by kernel_rfl
    go_enter Tryz.func76, Tryz.ntmps76
    go_wp2_with (first
      | (at_lookup; refine wpl_look rfl _ _ _ _ rfl rfl rfl HL.out ?_; dsimp only [codM, Option.getD])
      | (at_mapUpdate; refine wpl_upd rfl _ _ _ _ rfl rfl rfl rfl HR.out ?_)
      | fail)
    exact bodyPost_end (results_none rfl _ _ _) rfl ⟨rfl, HF.out⟩
  | none =>
    have hnil := h.isNil hs
    have hl := h.map.look (z0 := none) hu1 (hz1 u) ha
    rw [hs] at hl
    -- a new map, laid in, then written
    obtain ⟨w1, hw1⟩ : ∃ w1, w1 = u.alloc (.map #[] 0) := ⟨_, rfl⟩
    obtain ⟨N, hN⟩ : ∃ N, N = u.heap.size := ⟨_, rfl⟩
    have hmade : MapAt codU N [] w1 := by rw [hw1, hN]; exact MapAt.made _ _
    have hM1 : MapAt codM B rm w1 := by rw [hw1]; exact h.map.kept (World.grownBy_alloc u _ none) (by simp)
    have hBlt := h.map.lt
    obtain ⟨w2, hr2, hm2, hg2, hs2⟩ := hM1.store hu1 hn ha (some N)
    have hl2 := hm2.look (z0 := none) hu1 (hz1 w2) ha
    rw [hM1.srt.get_put] at hl2
    simp only [if_true, Option.getD_some] at hl2
    have hmade2 := hmade.kept hg2 (by simp; omega)
    obtain ⟨w3, hr3, hm3, hg3, hs3⟩ := hmade2.store hu2 (by simp; unfold maxLen; omega) hb v
    have hm2' := hm2.kept hg3 (by simp; omega)
    have hB : Only (oblk B rm) (fun _ => False) u w2 := only_trans (by rw [hw1]; exact only_alloc _) (only_grown hg2 (.inl rfl))
    have hsz1 : w1.heap.size = u.heap.size + 1 := by rw [hw1]; simp
    have Hfin : OutTo codU B rm (fun i => if i = a then sput (rows a) b v else rows i) u w3 := by
      rw [hnil]
      refine ⟨_, h.lay hs hm2' (by omega) (by omega) (sput_ne _ _ _) hm3 (fun k hk hkB => ?_), ⟨hB.grow.trans ⟨hg3.os, hg3.tape, hg3.output, hg3.size⟩, fun k hk hk1 hk2 => ?_⟩, fun k hk => ?_⟩
      · rw [hg3.block k (by omega) (by simp; omega), hg2.block k (by omega) (by simp; omega), hw1]
        exact Below.heap_alloc _ _ k hk
      · rw [hg3.block k (by omega) (by simp; omega)]
        exact hB.block k hk hk1 hk2
      · rcases oblk_put h.map.srt hk with h' | h'
        · exact .inl h'
        · exact .inr (by omega)
    have Hfin := hout _ _ Hfin
    rw [hu] at hl
    have HF := Lib.hid Hfin
    have HL := Lib.hid hl
    have HL2 := Lib.hid hl2
    rw [hw1, hu] at hr2
    rw [hu, World.size_alloc] at hN
    subst hN
    have HR2 := Lib.hid hr2
    have HR3 := Lib.hid hr3
    have hmk : ∀ w, (Instr.makeMap 187 Option.none).run Tryz.prog w = .ok (.map (some w.heap.size)) (w.alloc (.map #[] 0)) := fun w => run_makeMap _ w
    clear hout Hfin h hs hn hra hl hl2 hr2 hr3 hnil hmade hM1 hm2 hg2 hs2 hmade2 hm3 hg3 hs3 hm2' hB hsz1 hBlt hw1 hmm hu
    have q1 : ∀ bm w, (binOp .eql 187 (.map (some bm)) (.map Option.none)).run Tryz.prog w = .ok (.bool false) w := fun bm w => by kernel_rfl
    have q2 : ∀ w, (binOp .eql 187 (.map Option.none) (.map Option.none)).run Tryz.prog w = .ok (.bool true) w := fun w => by kernel_rfl
    go_enter Tryz.func76, Tryz.ntmps76
    have tok1 : True := trivial
    have tok2 : True := trivial
    go_wp2_with (first
      | (at_lookup; have _t := tok1; refine wpl_look rfl _ _ _ _ rfl rfl rfl HL.out ?_; dsimp only [codM, Option.getD]; clear tok1)
      | (at_lookup; refine wpl_look rfl _ _ _ _ rfl rfl rfl HL2.out ?_; dsimp only [codM])
      | (at_mapUpdate; have _t := tok2; refine wpl_upd rfl _ _ _ _ rfl rfl rfl rfl HR2.out ?_; clear tok2)
      | (at_mapUpdate; refine wpl_upd rfl _ _ _ _ rfl rfl rfl rfl HR3.out ?_)
      | fail)
    exact bodyPost_end (results_none rfl _ _ _) rfl ⟨rfl, HF.out⟩

end Go.Proofs.YtfgkaookgfghoaaGreat
