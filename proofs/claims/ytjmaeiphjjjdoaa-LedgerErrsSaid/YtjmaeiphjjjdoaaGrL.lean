/-
  grid's lay and take.
-/
import Derived.Test.YtjmaeiphjjjdoaaGrO
namespace Go.Proofs.Ytjmaeiphjjjdoaa
open Go.RowKit Go.Maps
set_option linter.unusedVariables false
set_option linter.unusedSimpArgs false

theorem sput_ne {β : Type} (m : List (Int × β)) (k : Int) (v : β) : sput m k v ≠ [] := List.ne_nil_of_mem (mem_sput.2 (.inl rfl))
theorem only_grown {w w' : World} {B : Nat} {Ψ : FP} (hg : w.grownBy w' (some B)) (hΨ : Ψ B) : Only Ψ (fun _ => False) w w' :=
  ⟨⟨hg.os, hg.tape, hg.output, hg.size⟩, fun k hk h1 _ => hg.block k hk (fun e => by cases e; exact h1 hΨ)⟩
theorem only_alloc {w : World} (o : Obj) {Ψ : FP} : Only Ψ (fun _ => False) w (w.alloc o) := Only.of_later ((Below.refl _ w).alloc (Nat.le_refl _) o)
theorem only_trans {Ψ : FP} {A B C : World} (h : Only Ψ (fun _ => False) A B) (k : Only Ψ (fun _ => False) B C) : Only Ψ (fun _ => False) A C := h.trans k (fun _ h => h.elim)
/-- What a change of a map of maps leaves. -/
def OutTo {β : Type} (c : Cod β) (B : Nat) (rm : List (Int × Option Nat)) (rows : Int → List (Int × β)) (w w' : World) : Prop :=
  ∃ rm', OutAt c B rm' rows w' ∧ Only (oblk B rm) (fun _ => False) w w' ∧ ∀ k, oblk B rm' k → oblk B rm k ∨ w.heap.size ≤ k
theorem OutTo.alloc {β : Type} {c : Cod β} {B : Nat} {rm : List (Int × Option Nat)} {rows : Int → List (Int × β)} {w w' : World} {o : Obj} (h : OutTo c B rm rows (w.alloc o) w') : OutTo c B rm rows w w' := by
  obtain ⟨rm', h1, h2, h3⟩ := h
  exact ⟨rm', h1, only_trans (only_alloc o) h2, fun k hk => (h3 k hk).imp id (fun h => by simp at h; omega)⟩
theorem oblk_put {B : Nat} {rm : List (Int × Option Nat)} (hs : SrtK rm) {a : Int} {b k : Nat} (h : oblk B (sput rm a (some b)) k) : oblk B rm k ∨ k = b := by
  rcases h with h | ⟨i, hi⟩
  · exact .inl (.inl h)
  · rw [hs.get_put] at hi
    by_cases e : i = a
    · simp [e] at hi; exact .inr hi.symm
    · simp [e] at hi; exact .inl (.inr ⟨i, hi⟩)
theorem oblk_del {B : Nat} {rm : List (Int × Option Nat)} (hs : SrtK rm) {a : Int} {k : Nat} (h : oblk B (sdel rm a) k) : oblk B rm k := by
  rcases h with h | ⟨i, hi⟩
  · exact .inl h
  · rw [hs.get_del] at hi
    by_cases e : i = a
    · simp [e] at hi
    · simp [e] at hi; exact .inr ⟨i, hi⟩

set_option maxRecDepth 100000 in
set_option maxHeartbeats 2000000 in
theorem lay_I {B : Nat} {rm : List (Int × Option Nat)} {rows : Int → List (Int × Int)} {w : World} (h : OutAt codI B rm rows w) (hn : rm.length < maxLen) {a b : Int} (hra : (rows a).length < maxLen) (ha : (Lit.int .i64 a).wf = true) (hb : (Lit.int .i64 b).wf = true) (v : Int) :
    Calls Try.prog 62 #[.map (some B), .int .i64 a, .int .i64 b, .int .i64 v] w fun e w' => e = .returned (.tuple #[]) ∧ OutTo codI B rm (fun i => if i = a then sput (rows a) b v else rows i) w w' := by
  have hmm := @run_makeMap Try.prog
  have hu1 : Try.prog.underlying 77 = some (.map 3 87) := Try.underlying77
  have hu2 : Try.prog.underlying 87 = some (.map 3 3) := Try.underlying87
  have hz1 : ∀ w, (zeroValue 87).run Try.prog w = .ok (codM.enc none) w := fun w => Try.zeroValue87 w
  obtain ⟨u, hu⟩ : ∃ u, u = w := ⟨_, rfl⟩
  have h : OutAt codI B rm rows u := by rw [hu]; exact h
  have hout : ∀ rows' w', OutTo codI B rm rows' u w' → OutTo codI B rm rows' w w' := fun rows' w' ho => by rw [hu] at ho; exact ho
  cases hs : sget rm a with
  | some x =>
    obtain ⟨b', rfl, h1, h2, h3⟩ := h.at_ a x hs
    obtain ⟨w', hr, hm', hg, hsz⟩ := h3.store hu2 hra hb v
    have hl := h.map.look (z0 := none) hu1 (hz1 u) ha
    rw [hs] at hl
    have Hfin : OutTo codI B rm (fun i => if i = a then sput (rows a) b v else rows i) u w' :=
      ⟨rm, h.upd hs (sput_ne _ _ _) hm' hg, only_grown hg (.inr ⟨a, hs⟩), fun k hk => .inl hk⟩
    have Hfin := hout _ _ Hfin
    rw [hu] at hl hr
    have HF := Lib.hid Hfin
    have HL := Lib.hid hl
    have HR := Lib.hid hr
    clear hout Hfin h h1 h2 h3 hs hm' hg hsz hn hra hl hr hmm hu
    have q1 : ∀ bm w, (binOp .eql 87 (.map (some bm)) (.map Option.none)).run Try.prog w = .ok (.bool false) w := fun bm w => by kernel_rfl
    have q2 : ∀ w, (binOp .eql 87 (.map Option.none) (.map Option.none)).run Try.prog w = .ok (.bool true) w := fun w => by kernel_rfl
    go_enter Try.func62, Try.ntmps62
    go_wp2_with (first
      | (at_lookup; refine wpl_look rfl _ _ _ _ rfl rfl rfl HL.out ?_; dsimp only [codM, Option.getD])
      | (at_mapUpdate; refine wpl_upd rfl _ _ _ _ rfl rfl rfl rfl HR.out ?_)
      | fail)
    exact bodyPost_end (results_none rfl _ _ _) rfl ⟨rfl, HF.out⟩
  | none =>
    have hnil := h.isNil hs
    have hl := h.map.look (z0 := none) hu1 (hz1 u) ha
    rw [hs] at hl
    -- a new map, laid in, then written
    obtain ⟨w1, hw1⟩ : ∃ w1, w1 = u.alloc (.map #[] 0) := ⟨_, rfl⟩
    obtain ⟨N, hN⟩ : ∃ N, N = u.heap.size := ⟨_, rfl⟩
    have hmade : MapAt codI N [] w1 := by rw [hw1, hN]; exact MapAt.made _ _
    have hM1 : MapAt codM B rm w1 := by rw [hw1]; exact h.map.kept (World.grownBy_alloc u _ none) (by simp)
    have hBlt := h.map.lt
    obtain ⟨w2, hr2, hm2, hg2, hs2⟩ := hM1.store hu1 hn ha (some N)
    have hl2 := hm2.look (z0 := none) hu1 (hz1 w2) ha
    rw [hM1.srt.get_put] at hl2
    simp only [if_true, Option.getD_some] at hl2
    have hmade2 := hmade.kept hg2 (by simp; omega)
    obtain ⟨w3, hr3, hm3, hg3, hs3⟩ := hmade2.store hu2 (by simp; unfold maxLen; omega) hb v
    have hm2' := hm2.kept hg3 (by simp; omega)
    have hB : Only (oblk B rm) (fun _ => False) u w2 := only_trans (by rw [hw1]; exact only_alloc _) (only_grown hg2 (.inl rfl))
    have hsz1 : w1.heap.size = u.heap.size + 1 := by rw [hw1]; simp
    have Hfin : OutTo codI B rm (fun i => if i = a then sput (rows a) b v else rows i) u w3 := by
      rw [hnil]
      refine ⟨_, h.lay hs hm2' (by omega) (by omega) (sput_ne _ _ _) hm3 (fun k hk hkB => ?_), ⟨hB.grow.trans ⟨hg3.os, hg3.tape, hg3.output, hg3.size⟩, fun k hk hk1 hk2 => ?_⟩, fun k hk => ?_⟩
      · rw [hg3.block k (by omega) (by simp; omega), hg2.block k (by omega) (by simp; omega), hw1]
        exact Below.heap_alloc _ _ k hk
      · rw [hg3.block k (by omega) (by simp; omega)]
        exact hB.block k hk hk1 hk2
      · rcases oblk_put h.map.srt hk with h' | h'
        · exact .inl h'
        · exact .inr (by omega)
    have Hfin := hout _ _ Hfin
    rw [hu] at hl
    have HF := Lib.hid Hfin
    have HL := Lib.hid hl
    have HL2 := Lib.hid hl2
    rw [hw1, hu] at hr2
    rw [hu] at hN
    subst hN
    have HR2 := Lib.hid hr2
    have HR3 := Lib.hid hr3
    have hmk : ∀ w, (Instr.makeMap 87 Option.none).run Try.prog w = .ok (.map (some w.heap.size)) (w.alloc (.map #[] 0)) := fun w => run_makeMap _ w
    clear hout Hfin h hs hn hra hl hl2 hr2 hr3 hnil hmade hM1 hm2 hg2 hs2 hmade2 hm3 hg3 hs3 hm2' hB hsz1 hBlt hw1 hmm hu
    have q1 : ∀ bm w, (binOp .eql 87 (.map (some bm)) (.map Option.none)).run Try.prog w = .ok (.bool false) w := fun bm w => by kernel_rfl
    have q2 : ∀ w, (binOp .eql 87 (.map Option.none) (.map Option.none)).run Try.prog w = .ok (.bool true) w := fun w => by kernel_rfl
    go_enter Try.func62, Try.ntmps62
    have tok1 : True := trivial
    have tok2 : True := trivial
    go_wp2_with (first
      | (at_lookup; have _t := tok1; refine wpl_look rfl _ _ _ _ rfl rfl rfl HL.out ?_; dsimp only [codM, Option.getD]; clear tok1)
      | (at_lookup; refine wpl_look rfl _ _ _ _ rfl rfl rfl HL2.out ?_; dsimp only [codM])
      | (at_mapUpdate; have _t := tok2; refine wpl_upd rfl _ _ _ _ rfl rfl rfl rfl HR2.out ?_; clear tok2)
      | (at_mapUpdate; refine wpl_upd rfl _ _ _ _ rfl rfl rfl rfl HR3.out ?_)
      | fail)
    exact bodyPost_end (results_none rfl _ _ _) rfl ⟨rfl, HF.out⟩

set_option maxRecDepth 100000 in
set_option maxHeartbeats 2000000 in
theorem lay_U {B : Nat} {rm : List (Int × Option Nat)} {rows : Int → List (Int × Unit)} {w : World} (h : OutAt codU B rm rows w) (hn : rm.length < maxLen) {a b : Int} (hra : (rows a).length < maxLen) (ha : (Lit.int .i64 a).wf = true) (hb : (Lit.int .i64 b).wf = true) (v : Unit) :
    Calls Try.prog 61 #[.map (some B), .int .i64 a, .int .i64 b, .agg #[]] w fun e w' => e = .returned (.tuple #[]) ∧ OutTo codU B rm (fun i => if i = a then sput (rows a) b v else rows i) w w' := by
  have hmm := @run_makeMap Try.prog
  have hu1 : Try.prog.underlying 78 = some (.map 3 93) := Try.underlying78
  have hu2 : Try.prog.underlying 93 = some (.map 3 85) := Try.underlying93
  have hz1 : ∀ w, (zeroValue 93).run Try.prog w = .ok (codM.enc none) w := fun w => Try.zeroValue93 w
  obtain ⟨u, hu⟩ : ∃ u, u = w.alloc (.cells #[] 85) := ⟨_, rfl⟩
  have h : OutAt codU B rm rows u := by rw [hu]; exact h.block (fun k hk => Below.heap_alloc _ _ k (h.lt hk))
  have hout : ∀ rows' w', OutTo codU B rm rows' u w' → OutTo codU B rm rows' w w' := fun rows' w' ho => by rw [hu] at ho; exact ho.alloc
  cases hs : sget rm a with
  | some x =>
    obtain ⟨b', rfl, h1, h2, h3⟩ := h.at_ a x hs
    obtain ⟨w', hr, hm', hg, hsz⟩ := h3.store hu2 hra hb v
    have hl := h.map.look (z0 := none) hu1 (hz1 u) ha
    rw [hs] at hl
    have Hfin : OutTo codU B rm (fun i => if i = a then sput (rows a) b v else rows i) u w' :=
      ⟨rm, h.upd hs (sput_ne _ _ _) hm' hg, only_grown hg (.inr ⟨a, hs⟩), fun k hk => .inl hk⟩
    have Hfin := hout _ _ Hfin
    rw [hu] at hl hr
    have HF := Lib.hid Hfin
    have HL := Lib.hid hl
    have HR := Lib.hid hr
    clear hout Hfin h h1 h2 h3 hs hm' hg hsz hn hra hl hr hmm hu
    have q1 : ∀ bm w, (binOp .eql 93 (.map (some bm)) (.map Option.none)).run Try.prog w = .ok (.bool false) w := fun bm w => by kernel_rfl
    have q2 : ∀ w, (binOp .eql 93 (.map Option.none) (.map Option.none)).run Try.prog w = .ok (.bool true) w := fun w => by kernel_rfl
    go_enter Try.func61, Try.ntmps61
    go_wp2_with (first
      | (at_lookup; refine wpl_look rfl _ _ _ _ rfl rfl rfl HL.out ?_; dsimp only [codM, Option.getD])
      | (at_mapUpdate; refine wpl_upd rfl _ _ _ _ rfl rfl rfl rfl HR.out ?_)
      | fail)
    exact bodyPost_end (results_none rfl _ _ _) rfl ⟨rfl, HF.out⟩
  | none =>
    have hnil := h.isNil hs
    have hl := h.map.look (z0 := none) hu1 (hz1 u) ha
    rw [hs] at hl
    -- a new map, laid in, then written
    obtain ⟨w1, hw1⟩ : ∃ w1, w1 = u.alloc (.map #[] 0) := ⟨_, rfl⟩
    obtain ⟨N, hN⟩ : ∃ N, N = u.heap.size := ⟨_, rfl⟩
    have hmade : MapAt codU N [] w1 := by rw [hw1, hN]; exact MapAt.made _ _
    have hM1 : MapAt codM B rm w1 := by rw [hw1]; exact h.map.kept (World.grownBy_alloc u _ none) (by simp)
    have hBlt := h.map.lt
    obtain ⟨w2, hr2, hm2, hg2, hs2⟩ := hM1.store hu1 hn ha (some N)
    have hl2 := hm2.look (z0 := none) hu1 (hz1 w2) ha
    rw [hM1.srt.get_put] at hl2
    simp only [if_true, Option.getD_some] at hl2
    have hmade2 := hmade.kept hg2 (by simp; omega)
    obtain ⟨w3, hr3, hm3, hg3, hs3⟩ := hmade2.store hu2 (by simp; unfold maxLen; omega) hb v
    have hm2' := hm2.kept hg3 (by simp; omega)
    have hB : Only (oblk B rm) (fun _ => False) u w2 := only_trans (by rw [hw1]; exact only_alloc _) (only_grown hg2 (.inl rfl))
    have hsz1 : w1.heap.size = u.heap.size + 1 := by rw [hw1]; simp
    have Hfin : OutTo codU B rm (fun i => if i = a then sput (rows a) b v else rows i) u w3 := by
      rw [hnil]
      refine ⟨_, h.lay hs hm2' (by omega) (by omega) (sput_ne _ _ _) hm3 (fun k hk hkB => ?_), ⟨hB.grow.trans ⟨hg3.os, hg3.tape, hg3.output, hg3.size⟩, fun k hk hk1 hk2 => ?_⟩, fun k hk => ?_⟩
      · rw [hg3.block k (by omega) (by simp; omega), hg2.block k (by omega) (by simp; omega), hw1]
        exact Below.heap_alloc _ _ k hk
      · rw [hg3.block k (by omega) (by simp; omega)]
        exact hB.block k hk hk1 hk2
      · rcases oblk_put h.map.srt hk with h' | h'
        · exact .inl h'
        · exact .inr (by omega)
    have Hfin := hout _ _ Hfin
    rw [hu] at hl
    have HF := Lib.hid Hfin
    have HL := Lib.hid hl
    have HL2 := Lib.hid hl2
    rw [hw1, hu] at hr2
    rw [hu, World.size_alloc] at hN
    subst hN
    have HR2 := Lib.hid hr2
    have HR3 := Lib.hid hr3
    have hmk : ∀ w, (Instr.makeMap 93 Option.none).run Try.prog w = .ok (.map (some w.heap.size)) (w.alloc (.map #[] 0)) := fun w => run_makeMap _ w
    clear hout Hfin h hs hn hra hl hl2 hr2 hr3 hnil hmade hM1 hm2 hg2 hs2 hmade2 hm3 hg3 hs3 hm2' hB hsz1 hBlt hw1 hmm hu
    have q1 : ∀ bm w, (binOp .eql 93 (.map (some bm)) (.map Option.none)).run Try.prog w = .ok (.bool false) w := fun bm w => by kernel_rfl
    have q2 : ∀ w, (binOp .eql 93 (.map Option.none) (.map Option.none)).run Try.prog w = .ok (.bool true) w := fun w => by kernel_rfl
    go_enter Try.func61, Try.ntmps61
    have tok1 : True := trivial
    have tok2 : True := trivial
    go_wp2_with (first
      | (at_lookup; have _t := tok1; refine wpl_look rfl _ _ _ _ rfl rfl rfl HL.out ?_; dsimp only [codM, Option.getD]; clear tok1)
      | (at_lookup; refine wpl_look rfl _ _ _ _ rfl rfl rfl HL2.out ?_; dsimp only [codM])
      | (at_mapUpdate; have _t := tok2; refine wpl_upd rfl _ _ _ _ rfl rfl rfl rfl HR2.out ?_; clear tok2)
      | (at_mapUpdate; refine wpl_upd rfl _ _ _ _ rfl rfl rfl rfl HR3.out ?_)
      | fail)
    exact bodyPost_end (results_none rfl _ _ _) rfl ⟨rfl, HF.out⟩

set_option maxRecDepth 100000 in
set_option maxHeartbeats 2000000 in
theorem take_I {B : Nat} {rm : List (Int × Option Nat)} {rows : Int → List (Int × Int)} {w : World} (h : OutAt codI B rm rows w) {a b : Int} (hr0 : rows a ≠ []) (hlen : (rows a).length ≤ 1000000) (ha : (Lit.int .i64 a).wf = true) (hb : (Lit.int .i64 b).wf = true) :
    Calls Try.prog 60 #[.map (some B), .int .i64 a, .int .i64 b] w fun e w' => e = .returned (.tuple #[]) ∧ OutTo codI B rm (fun i => if i = a then sdel (rows a) b else rows i) w w' := by
  have hu1 : Try.prog.underlying 77 = some (.map 3 87) := Try.underlying77
  have hu2 : Try.prog.underlying 87 = some (.map 3 3) := Try.underlying87
  have hz1 : ∀ w, (zeroValue 87).run Try.prog w = .ok (codM.enc none) w := fun w => Try.zeroValue87 w
  obtain ⟨b', hs⟩ := h.has a hr0
  obtain ⟨b1, e, h1, h2, h3⟩ := h.at_ a _ hs
  obtain rfl : b' = b1 := by simpa using e
  have hl := h.map.look (z0 := none) hu1 (hz1 w) ha
  rw [hs] at hl
  obtain ⟨w1, hr1, hm1, hg1, hs1⟩ := h3.drop hu2 hb 0
  have hr1' : ∀ ty, (Builtin.delete_ #[87, 3] ty #[.map (some b'), .int .i64 b]).run Try.prog w = .ok (.tuple #[]) w1 := fun ty => hr1
  have hM1 : MapAt codM B rm w1 := h.map.kept hg1 (by simp; exact fun e => h2 e.symm)
  have hl2 := hM1.look (z0 := none) hu1 (hz1 w1) ha
  rw [hs] at hl2
  have hln := hm1.len hu2 0
  have hln' : ∀ ty, (Builtin.len_ #[87] ty #[.map (some b')]).run Try.prog w1 = .ok (.int .i64 (sdel (rows a) b).length) w1 := fun ty => hln
  have hO1 : Only (oblk B rm) (fun _ => False) w w1 := only_grown hg1 (.inr ⟨a, hs⟩)
  have hdl : (sdel (rows a) b).length ≤ 1000000 := Nat.le_trans (List.length_filter_le _ _) hlen
  by_cases hz : sdel (rows a) b = []
  · obtain ⟨w2, hr2, hm2, hg2, hs2⟩ := hM1.drop hu1 ha 0
    have hr2' : ∀ ty, (Builtin.delete_ #[77, 3] ty #[.map (some B), .int .i64 a]).run Try.prog w1 = .ok (.tuple #[]) w2 := fun ty => hr2
    rw [hz] at hln'
    have Hfin : OutTo codI B rm (fun i => if i = a then sdel (rows a) b else rows i) w w2 := by
      rw [hz]
      refine ⟨_, h.gone hs hm2 (fun k hk hk1 hk2 => ?_), only_trans hO1 (only_grown hg2 (.inl rfl)), fun k hk => .inl (oblk_del h.map.srt hk)⟩
      rw [hg2.block k (by omega) (by simpa using hk1), hg1.block k hk (by simpa using hk2)]
    have HF := Lib.hid Hfin
    have HL := Lib.hid hl
    have HL2 := Lib.hid hl2
    have HR1 := Lib.hid hr1'
    have HR2 := Lib.hid hr2'
    have HN := Lib.hid hln'
    clear Hfin h hs hl hl2 hr1 hr1' hr2 hr2' hln hln' hM1 hm1 hm2 hg1 hg2 hs1 hs2 hO1 hdl hz h1 h2 h3 e hr0 hlen
    go_enter Try.func60, Try.ntmps60
    have tok1 : True := trivial
    have tok2 : True := trivial
    go_wp2_with (first
      | (at_lookup; have _t := tok1; refine wpl_look rfl _ _ _ _ rfl rfl rfl HL.out ?_; dsimp only [codM, Option.getD]; clear tok1)
      | (at_lookup; refine wpl_look rfl _ _ _ _ rfl rfl rfl HL2.out ?_; dsimp only [codM, Option.getD])
      | (at_delete; have _t := tok2; refine wpl_drop rfl _ _ _ _ rfl rfl rfl (HR1.out _) ?_; clear tok2)
      | (at_delete; refine wpl_drop rfl _ _ _ _ rfl rfl rfl (HR2.out _) ?_)
      | (at_len; refine wpl_len rfl _ _ rfl rfl (HN.out _) ?_; dsimp only [List.length_nil])
      | fail)
    exact bodyPost_end (results_none rfl _ _ _) rfl ⟨rfl, HF.out⟩
  · have Hfin : OutTo codI B rm (fun i => if i = a then sdel (rows a) b else rows i) w w1 :=
      ⟨rm, h.upd hs hz hm1 hg1, hO1, fun k hk => .inl hk⟩
    obtain ⟨n, hn⟩ : ∃ n, n = (sdel (rows a) b).length := ⟨_, rfl⟩
    have hpos : 0 < n := by rw [hn]; exact List.length_pos_iff.2 hz
    have hne : (decide ((n : Int) = 0)) = false := by simp; omega
    have hne' : ((n : Int) == 0) = false := by simp; omega
    rw [← hn] at hln' hdl
    have HF := Lib.hid Hfin
    have HL := Lib.hid hl
    have HL2 := Lib.hid hl2
    have HR1 := Lib.hid hr1'
    have HN := Lib.hid hln'
    clear Hfin h hs hl hl2 hr1 hr1' hln hln' hM1 hm1 hg1 hs1 hO1 hz h1 h2 h3 e hr0 hlen hn
    go_enter Try.func60, Try.ntmps60
    have tok1 : True := trivial
    go_wp2_with (first
      | (at_lookup; have _t := tok1; refine wpl_look rfl _ _ _ _ rfl rfl rfl HL.out ?_; dsimp only [codM, Option.getD]; clear tok1)
      | (at_lookup; refine wpl_look rfl _ _ _ _ rfl rfl rfl HL2.out ?_; dsimp only [codM, Option.getD])
      | (at_delete; refine wpl_drop rfl _ _ _ _ rfl rfl rfl (HR1.out _) ?_)
      | (at_len; refine wpl_len rfl _ _ rfl rfl (HN.out _) ?_)
      | fail)
    exact bodyPost_end (results_none rfl _ _ _) rfl ⟨rfl, HF.out⟩

set_option maxRecDepth 100000 in
set_option maxHeartbeats 2000000 in
theorem take_U {B : Nat} {rm : List (Int × Option Nat)} {rows : Int → List (Int × Unit)} {w : World} (h : OutAt codU B rm rows w) {a b : Int} (hr0 : rows a ≠ []) (hlen : (rows a).length ≤ 1000000) (ha : (Lit.int .i64 a).wf = true) (hb : (Lit.int .i64 b).wf = true) :
    Calls Try.prog 59 #[.map (some B), .int .i64 a, .int .i64 b] w fun e w' => e = .returned (.tuple #[]) ∧ OutTo codU B rm (fun i => if i = a then sdel (rows a) b else rows i) w w' := by
  have hu1 : Try.prog.underlying 78 = some (.map 3 93) := Try.underlying78
  have hu2 : Try.prog.underlying 93 = some (.map 3 85) := Try.underlying93
  have hz1 : ∀ w, (zeroValue 93).run Try.prog w = .ok (codM.enc none) w := fun w => Try.zeroValue93 w
  obtain ⟨b', hs⟩ := h.has a hr0
  obtain ⟨b1, e, h1, h2, h3⟩ := h.at_ a _ hs
  obtain rfl : b' = b1 := by simpa using e
  have hl := h.map.look (z0 := none) hu1 (hz1 w) ha
  rw [hs] at hl
  obtain ⟨w1, hr1, hm1, hg1, hs1⟩ := h3.drop hu2 hb 0
  have hr1' : ∀ ty, (Builtin.delete_ #[93, 3] ty #[.map (some b'), .int .i64 b]).run Try.prog w = .ok (.tuple #[]) w1 := fun ty => hr1
  have hM1 : MapAt codM B rm w1 := h.map.kept hg1 (by simp; exact fun e => h2 e.symm)
  have hl2 := hM1.look (z0 := none) hu1 (hz1 w1) ha
  rw [hs] at hl2
  have hln := hm1.len hu2 0
  have hln' : ∀ ty, (Builtin.len_ #[93] ty #[.map (some b')]).run Try.prog w1 = .ok (.int .i64 (sdel (rows a) b).length) w1 := fun ty => hln
  have hO1 : Only (oblk B rm) (fun _ => False) w w1 := only_grown hg1 (.inr ⟨a, hs⟩)
  have hdl : (sdel (rows a) b).length ≤ 1000000 := Nat.le_trans (List.length_filter_le _ _) hlen
  by_cases hz : sdel (rows a) b = []
  · obtain ⟨w2, hr2, hm2, hg2, hs2⟩ := hM1.drop hu1 ha 0
    have hr2' : ∀ ty, (Builtin.delete_ #[78, 3] ty #[.map (some B), .int .i64 a]).run Try.prog w1 = .ok (.tuple #[]) w2 := fun ty => hr2
    rw [hz] at hln'
    have Hfin : OutTo codU B rm (fun i => if i = a then sdel (rows a) b else rows i) w w2 := by
      rw [hz]
      refine ⟨_, h.gone hs hm2 (fun k hk hk1 hk2 => ?_), only_trans hO1 (only_grown hg2 (.inl rfl)), fun k hk => .inl (oblk_del h.map.srt hk)⟩
      rw [hg2.block k (by omega) (by simpa using hk1), hg1.block k hk (by simpa using hk2)]
    have HF := Lib.hid Hfin
    have HL := Lib.hid hl
    have HL2 := Lib.hid hl2
    have HR1 := Lib.hid hr1'
    have HR2 := Lib.hid hr2'
    have HN := Lib.hid hln'
    clear Hfin h hs hl hl2 hr1 hr1' hr2 hr2' hln hln' hM1 hm1 hm2 hg1 hg2 hs1 hs2 hO1 hdl hz h1 h2 h3 e hr0 hlen
    go_enter Try.func59, Try.ntmps59
    have tok1 : True := trivial
    have tok2 : True := trivial
    go_wp2_with (first
      | (at_lookup; have _t := tok1; refine wpl_look rfl _ _ _ _ rfl rfl rfl HL.out ?_; dsimp only [codM, Option.getD]; clear tok1)
      | (at_lookup; refine wpl_look rfl _ _ _ _ rfl rfl rfl HL2.out ?_; dsimp only [codM, Option.getD])
      | (at_delete; have _t := tok2; refine wpl_drop rfl _ _ _ _ rfl rfl rfl (HR1.out _) ?_; clear tok2)
      | (at_delete; refine wpl_drop rfl _ _ _ _ rfl rfl rfl (HR2.out _) ?_)
      | (at_len; refine wpl_len rfl _ _ rfl rfl (HN.out _) ?_; dsimp only [List.length_nil])
      | fail)
    exact bodyPost_end (results_none rfl _ _ _) rfl ⟨rfl, HF.out⟩
  · have Hfin : OutTo codU B rm (fun i => if i = a then sdel (rows a) b else rows i) w w1 :=
      ⟨rm, h.upd hs hz hm1 hg1, hO1, fun k hk => .inl hk⟩
    obtain ⟨n, hn⟩ : ∃ n, n = (sdel (rows a) b).length := ⟨_, rfl⟩
    have hpos : 0 < n := by rw [hn]; exact List.length_pos_iff.2 hz
    have hne : (decide ((n : Int) = 0)) = false := by simp; omega
    have hne' : ((n : Int) == 0) = false := by simp; omega
    rw [← hn] at hln' hdl
    have HF := Lib.hid Hfin
    have HL := Lib.hid hl
    have HL2 := Lib.hid hl2
    have HR1 := Lib.hid hr1'
    have HN := Lib.hid hln'
    clear Hfin h hs hl hl2 hr1 hr1' hln hln' hM1 hm1 hg1 hs1 hO1 hz h1 h2 h3 e hr0 hlen hn
    go_enter Try.func59, Try.ntmps59
    have tok1 : True := trivial
    go_wp2_with (first
      | (at_lookup; have _t := tok1; refine wpl_look rfl _ _ _ _ rfl rfl rfl HL.out ?_; dsimp only [codM, Option.getD]; clear tok1)
      | (at_lookup; refine wpl_look rfl _ _ _ _ rfl rfl rfl HL2.out ?_; dsimp only [codM, Option.getD])
      | (at_delete; refine wpl_drop rfl _ _ _ _ rfl rfl rfl (HR1.out _) ?_)
      | (at_len; refine wpl_len rfl _ _ rfl rfl (HN.out _) ?_)
      | fail)
    exact bodyPost_end (results_none rfl _ _ _) rfl ⟨rfl, HF.out⟩
end Go.Proofs.Ytjmaeiphjjjdoaa
