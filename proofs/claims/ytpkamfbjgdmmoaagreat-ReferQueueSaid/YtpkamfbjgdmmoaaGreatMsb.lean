/-
  Joined texts.
-/
import Derived.OwnWalkIn
import Derived.Maps.OwnIn
import Derived.Maps.OwnOps
import Derived.Deep.DeepCutAuto
import Derived.WalkKit
import Derived.Lib.Hide
import Derived.Below
import Derived.Deep.MidRow
import Derived.Deep.WholeRow
import Derived.Laws.Rows
import Derived.Test.YtpkamfbjgdmmoaaGreatMsa

section
namespace Go.Proofs.YtpkamfbjgdmmoaaGreat
open Go.RowKit Go.Maps
set_option linter.unusedVariables false
set_option linter.unusedSimpArgs false

section
variable {P : Program} {w : World} {ops : Array Oper} {rest : List Oper} {o : Oper} {a : Act} {Q : Exit → Act → World → Prop}
theorem wpl_look (hg : o.guard = none) (m x : Operand) (t : TypeId) (c : Bool) (hop : o.op = Op.lookup t m x c) {mv kv r : Value} (hm : a.eval m = mv) (hx : a.eval x = kv) (hr : (Instr.lookup t mv kv c).run P w = .ok r w)
    (h : wpList P ops Q rest (a.put o.dst r) w) : wpList P ops Q (o :: rest) a w := by
  refine wpList_plain hg fun K hK => ?_
  unfold Oper.wp
  simp [execOp, hop, hm, hx, hr, Result.andThen]
  exact hK _ _ h
theorem wpl_upd {w' : World} (hg : o.guard = none) (m x v : Operand) (t : TypeId) (hop : o.op = Op.mapUpdate t m x v) {mv kv vv : Value} (hm : a.eval m = mv) (hx : a.eval x = kv) (hv : a.eval v = vv) (hr : (Instr.mapUpdate t mv kv vv).run P w = .ok () w')
    (h : wpList P ops Q rest (a.put o.dst undef) w') : wpList P ops Q (o :: rest) a w := by
  refine wpList_plain hg fun K hK => ?_
  unfold Oper.wp
  simp [execOp, hop, hm, hx, hv, hr, Result.andThen]
  exact hK _ _ h
theorem wpl_drop {w' : World} (hg : o.guard = none) (m x : Operand) (t k : TypeId) (hop : o.op = Op.call { callee := Callee.builtin Builtin.delete, args := #[m, x], argTypes := #[t, k] }) {mv kv : Value} (hm : a.eval m = mv) (hx : a.eval x = kv) (hr : (Builtin.delete_ #[t, k] o.type #[mv, kv]).run P w = .ok (.tuple #[]) w')
    (h : wpList P ops Q rest (a.put o.dst (.tuple #[])) w') : wpList P ops Q (o :: rest) a w := by
  refine wpList_plain hg fun K hK => ?_
  unfold Oper.wp
  simp [execOp, hop, resolve, invoke, builtin, hm, hx, hr, Result.andThen]
  exact hK _ _ h
theorem wpl_len (hg : o.guard = none) (m : Operand) (t : TypeId) (hop : o.op = Op.call { callee := Callee.builtin Builtin.len, args := #[m], argTypes := #[t] }) {mv r : Value} (hm : a.eval m = mv) (hr : (Builtin.len_ #[t] o.type #[mv]).run P w = .ok r w)
    (h : wpList P ops Q rest (a.put o.dst r) w) : wpList P ops Q (o :: rest) a w := by
  refine wpList_plain hg fun K hK => ?_
  unfold Oper.wp
  simp [execOp, hop, resolve, invoke, builtin, hm, hr, Result.andThen]
  exact hK _ _ h
end

/-- B is a map whose elements are maps: at a the one that holds rows a, where that is not empty. -/
structure OutAt {β : Type} (c : Cod β) (B : Nat) (rm : List (Int × Option Nat)) (rows : Int → List (Int × β)) (w : World) : Prop where
  map : MapAt codM B rm w
  has : ∀ a, rows a ≠ [] → ∃ b, sget rm a = some (some b)
  at_ : ∀ a x, sget rm a = some x → ∃ b, x = some b ∧ rows a ≠ [] ∧ b ≠ B ∧ MapAt c b (rows a) w
  inj : ∀ a a' b, sget rm a = some (some b) → sget rm a' = some (some b) → a = a'

/-- Its blocks. -/
def oblk (B : Nat) (rm : List (Int × Option Nat)) : FP := fun k => k = B ∨ ∃ a, sget rm a = some (some k)

section
variable {β : Type} {c : Cod β} {B : Nat} {rm : List (Int × Option Nat)} {rows : Int → List (Int × β)} {w : World}
theorem OutAt.block {w' : World} (h : OutAt c B rm rows w) (hb : ∀ k, oblk B rm k → w'.heap[k]? = w.heap[k]?) : OutAt c B rm rows w' := by
  refine ⟨h.map.block (hb B (.inl rfl)), h.has, fun a x hx => ?_, h.inj⟩
  obtain ⟨b, rfl, h1, h2, h3⟩ := h.at_ a x hx
  exact ⟨b, rfl, h1, h2, h3.block (hb b (.inr ⟨a, hx⟩))⟩
theorem OutAt.lt (h : OutAt c B rm rows w) {k : Nat} (hk : oblk B rm k) : k < w.heap.size := by
  rcases hk with rfl | ⟨a, ha⟩
  · exact h.map.lt
  · obtain ⟨b, e, _, _, h3⟩ := h.at_ a _ ha
    cases e
    exact h3.lt
theorem OutAt.isMap (h : OutAt c B rm rows w) {k : Nat} (hk : oblk B rm k) : ∃ es clock, w.heap[k]? = some (.map es clock) := by
  rcases hk with rfl | ⟨a, ha⟩
  · exact h.map.isMap
  · obtain ⟨b, e, _, _, h3⟩ := h.at_ a _ ha
    cases e
    exact h3.isMap
theorem OutAt.made (c : Cod β) (w : World) : OutAt c w.heap.size [] (fun _ => []) (w.alloc (.map #[] 0)) :=
  ⟨MapAt.made _ _, fun a h => absurd rfl h, fun a x h => by simp [sget] at h, fun a a' b h => by simp [sget] at h⟩
theorem OutAt.congr {rows' : Int → List (Int × β)} (h : OutAt c B rm rows w) (e : ∀ a, rows' a = rows a) : OutAt c B rm rows' w := by
  have : rows' = rows := funext e
  rw [this]; exact h
/-- What the lookup of a row finds. -/
theorem OutAt.isNil (h : OutAt c B rm rows w) {a : Int} (e : sget rm a = none) : rows a = [] := by
  by_cases hr : rows a = []
  · exact hr
  · obtain ⟨b, hb⟩ := h.has a hr
    rw [e] at hb; cases hb
theorem OutAt.keys (h : OutAt c B rm rows w) (a : Int) : a ∈ rm.map (·.1) ↔ rows a ≠ [] := by
  constructor
  · intro hm
    obtain ⟨⟨a', x⟩, hx, rfl⟩ := List.mem_map.1 hm
    obtain ⟨b, _, h1, _⟩ := h.at_ _ x (h.map.srt.get.2 hx)
    exact h1
  · intro hr
    obtain ⟨b, hb⟩ := h.has a hr
    exact List.mem_map.2 ⟨_, sget_mem hb, rfl⟩
/-- A row is written: it was there. -/
theorem OutAt.upd {w' : World} {a : Int} {b : Nat} {r' : List (Int × β)} (h : OutAt c B rm rows w) (hb : sget rm a = some (some b)) (hr : r' ≠ []) (hm : MapAt c b r' w') (hg : w.grownBy w' (some b)) : OutAt c B rm (fun i => if i = a then r' else rows i) w' := by
  have hB : b ≠ B := by obtain ⟨b', e, _, h2, _⟩ := h.at_ a _ hb; cases e; exact h2
  refine ⟨h.map.kept hg (by simp; exact fun e => hB e.symm), fun i hi => ?_, fun i x hx => ?_, h.inj⟩
  · by_cases e : i = a
    · subst e; exact ⟨b, hb⟩
    · simp only [e, if_false] at hi; exact h.has i hi
  · by_cases e : i = a
    · subst e
      rw [hb] at hx; cases hx
      exact ⟨b, rfl, by simpa using hr, hB, by simpa using hm⟩
    · obtain ⟨b', rfl, h1, h2, h3⟩ := h.at_ i x hx
      refine ⟨b', rfl, by simpa [e] using h1, h2, ?_⟩
      simp only [e, if_false]
      refine h3.kept hg ?_
      simp only [ne_eq, Option.some.injEq]
      rintro rfl
      exact e (h.inj i a _ hx hb)
/-- A row is laid: it was not there. -/
theorem OutAt.lay {w' : World} {a : Int} {b : Nat} {r' : List (Int × β)} (h : OutAt c B rm rows w) (hb : sget rm a = none) (hm' : MapAt codM B (sput rm a (some b)) w') (hbB : b ≠ B) (hfresh : w.heap.size ≤ b) (hr : r' ≠ []) (hm : MapAt c b r' w') (hk : ∀ k, k < w.heap.size → k ≠ B → w'.heap[k]? = w.heap[k]?) :
    OutAt c B (sput rm a (some b)) (fun i => if i = a then r' else rows i) w' := by
  have hnew : ∀ i, sget rm i ≠ some (some b) := fun i hi => by
    have := h.lt (.inr ⟨i, hi⟩); omega
  refine ⟨hm', fun i hi => ?_, fun i x hx => ?_, fun i j b' hi hj => ?_⟩
  · rw [h.map.srt.get_put]
    by_cases e : i = a
    · subst e; exact ⟨b, by simp⟩
    · simp only [e, if_false] at hi ⊢; exact h.has i hi
  · rw [h.map.srt.get_put] at hx
    by_cases e : i = a
    · subst e
      simp at hx; subst hx
      exact ⟨b, rfl, by simpa using hr, hbB, by simpa using hm⟩
    · simp only [e, if_false] at hx ⊢
      obtain ⟨b', rfl, h1, h2, h3⟩ := h.at_ i x hx
      exact ⟨b', rfl, h1, h2, h3.block (hk b' h3.lt h2)⟩
  · rw [h.map.srt.get_put] at hi hj
    by_cases e : i = a <;> by_cases e' : j = a
    · rw [e, e']
    · simp only [e, e', if_true, if_false, Option.some.injEq] at hi hj
      subst hi
      exact absurd hj (hnew j)
    · simp only [e, e', if_true, if_false, Option.some.injEq] at hi hj
      subst hj
      exact absurd hi (hnew i)
    · simp only [e, e', if_false] at hi hj
      exact h.inj i j b' hi hj
/-- A row is gone. -/
theorem OutAt.gone {w' : World} {a : Int} {b : Nat} (h : OutAt c B rm rows w) (hb : sget rm a = some (some b)) (hm' : MapAt codM B (sdel rm a) w') (hk : ∀ k, k < w.heap.size → k ≠ B → k ≠ b → w'.heap[k]? = w.heap[k]?) :
    OutAt c B (sdel rm a) (fun i => if i = a then [] else rows i) w' := by
  refine ⟨hm', fun i hi => ?_, fun i x hx => ?_, fun i j b' hi hj => ?_⟩
  · rw [h.map.srt.get_del]
    by_cases e : i = a
    · subst e; simp at hi
    · simp only [e, if_false] at hi ⊢; exact h.has i hi
  · rw [h.map.srt.get_del] at hx
    by_cases e : i = a
    · subst e; simp at hx
    · simp only [e, if_false] at hx ⊢
      obtain ⟨b', rfl, h1, h2, h3⟩ := h.at_ i x hx
      refine ⟨b', rfl, h1, h2, h3.block (hk b' h3.lt h2 ?_)⟩
      rintro rfl
      exact e (h.inj i a _ hx hb)
  · rw [h.map.srt.get_del] at hi hj
    by_cases e : i = a
    · simp [e] at hi
    · by_cases e' : j = a
      · simp [e'] at hj
      · simp only [e, e', if_false] at hi hj
        exact h.inj i j b' hi hj
end
end Go.Proofs.YtpkamfbjgdmmoaaGreat
end

section
namespace Go.Proofs.YtpkamfbjgdmmoaaGreat
open Go.RowKit Go.Maps
set_option linter.unusedVariables false
set_option linter.unusedSimpArgs false

theorem sput_ne {β : Type} (m : List (Int × β)) (k : Int) (v : β) : sput m k v ≠ [] := List.ne_nil_of_mem (mem_sput.2 (.inl rfl))
theorem only_grown {w w' : World} {B : Nat} {Ψ : FP} (hg : w.grownBy w' (some B)) (hΨ : Ψ B) : Only Ψ (fun _ => False) w w' :=
  ⟨⟨hg.os, hg.tape, hg.output, hg.size⟩, fun k hk h1 _ => hg.block k hk (fun e => by cases e; exact h1 hΨ)⟩
theorem only_alloc {w : World} (o : Obj) {Ψ : FP} : Only Ψ (fun _ => False) w (w.alloc o) := Only.of_later ((Below.refl _ w).alloc (Nat.le_refl _) o)
theorem only_trans {Ψ : FP} {A B C : World} (h : Only Ψ (fun _ => False) A B) (k : Only Ψ (fun _ => False) B C) : Only Ψ (fun _ => False) A C := h.trans k (fun _ h => h.elim)
/-- What a change of a map of maps leaves. -/
def OutTo {β : Type} (c : Cod β) (B : Nat) (rm : List (Int × Option Nat)) (rows : Int → List (Int × β)) (w w' : World) : Prop :=
  ∃ rm', OutAt c B rm' rows w' ∧ Only (oblk B rm) (fun _ => False) w w' ∧ ∀ k, oblk B rm' k → oblk B rm k ∨ w.heap.size ≤ k
theorem OutTo.alloc {β : Type} {c : Cod β} {B : Nat} {rm : List (Int × Option Nat)} {rows : Int → List (Int × β)} {w w' : World} {o : Obj} (h : OutTo c B rm rows (w.alloc o) w') : OutTo c B rm rows w w' := by
  obtain ⟨rm', h1, h2, h3⟩ := h
  exact ⟨rm', h1, only_trans (only_alloc o) h2, fun k hk => (h3 k hk).imp id (fun h => by simp at h; omega)⟩
theorem oblk_put {B : Nat} {rm : List (Int × Option Nat)} (hs : SrtK rm) {a : Int} {b k : Nat} (h : oblk B (sput rm a (some b)) k) : oblk B rm k ∨ k = b := by
  rcases h with h | ⟨i, hi⟩
  · exact .inl (.inl h)
  · rw [hs.get_put] at hi
    by_cases e : i = a
    · simp [e] at hi; exact .inr hi.symm
    · simp [e] at hi; exact .inl (.inr ⟨i, hi⟩)
theorem oblk_del {B : Nat} {rm : List (Int × Option Nat)} (hs : SrtK rm) {a : Int} {k : Nat} (h : oblk B (sdel rm a) k) : oblk B rm k := by
  rcases h with h | ⟨i, hi⟩
  · exact .inl h
  · rw [hs.get_del] at hi
    by_cases e : i = a
    · simp [e] at hi
    · simp [e] at hi; exact .inr ⟨i, hi⟩

set_option maxRecDepth 100000 in
set_option maxHeartbeats 2000000 in
theorem lay_I {B : Nat} {rm : List (Int × Option Nat)} {rows : Int → List (Int × Int)} {w : World} (h : OutAt codI B rm rows w) (hn : rm.length < maxLen) {a b : Int} (hra : (rows a).length < maxLen) (ha : (Lit.int .i64 a).wf = true) (hb : (Lit.int .i64 b).wf = true) (v : Int) :
    Calls Tryz.prog 136 #[.map (some B), .int .i64 a, .int .i64 b, .int .i64 v] w fun e w' => e = .returned (.tuple #[]) ∧ OutTo codI B rm (fun i => if i = a then sput (rows a) b v else rows i) w w' := by
  have hmm := @run_makeMap Tryz.prog
  have hu1 : Tryz.prog.underlying 207 = some (.map 3 241) := Tryz.underlying207
  have hu2 : Tryz.prog.underlying 241 = some (.map 3 3) := Tryz.underlying241
  have hz1 : ∀ w, (zeroValue 241).run Tryz.prog w = .ok (codM.enc none) w := fun w => Tryz.zeroValue241 w
  obtain ⟨u, hu⟩ : ∃ u, u = w := ⟨_, rfl⟩
  have h : OutAt codI B rm rows u := by rw [hu]; exact h
  have hout : ∀ rows' w', OutTo codI B rm rows' u w' → OutTo codI B rm rows' w w' := fun rows' w' ho => by rw [hu] at ho; exact ho
  cases hs : sget rm a with
  | some x =>
    obtain ⟨b', rfl, h1, h2, h3⟩ := h.at_ a x hs
    obtain ⟨w', hr, hm', hg, hsz⟩ := h3.store hu2 hra hb v
    have hl := h.map.look (z0 := none) hu1 (hz1 u) ha
    rw [hs] at hl
    have Hfin : OutTo codI B rm (fun i => if i = a then sput (rows a) b v else rows i) u w' :=
      ⟨rm, h.upd hs (sput_ne _ _ _) hm' hg, only_grown hg (.inr ⟨a, hs⟩), fun k hk => .inl hk⟩
    have Hfin := hout _ _ Hfin
    rw [hu] at hl hr
    have HF := Lib.hid Hfin
    have HL := Lib.hid hl
    have HR := Lib.hid hr
    clear hout Hfin h h1 h2 h3 hs hm' hg hsz hn hra hl hr hmm hu
    have q1 : ∀ bm w, (binOp .eql 241 (.map (some bm)) (.map Option.none)).run Tryz.prog w = .ok (.bool false) w := fun bm w => by kernel_rfl
    have q2 : ∀ w, (binOp .eql 241 (.map Option.none) (.map Option.none)).run Tryz.prog w = .ok (.bool true) w := fun w => by kernel_rfl
    go_enter Tryz.func136, Tryz.ntmps136
    go_wp2_with (first
      | (at_lookup; refine wpl_look rfl _ _ _ _ rfl rfl rfl HL.out ?_; dsimp only [codM, Option.getD])
      | (at_mapUpdate; refine wpl_upd rfl _ _ _ _ rfl rfl rfl rfl HR.out ?_)
      | fail)
    exact bodyPost_end (results_none rfl _ _ _) rfl ⟨rfl, HF.out⟩
  | none =>
    have hnil := h.isNil hs
    have hl := h.map.look (z0 := none) hu1 (hz1 u) ha
    rw [hs] at hl
    -- a new map, laid in, then written
    obtain ⟨w1, hw1⟩ : ∃ w1, w1 = u.alloc (.map #[] 0) := ⟨_, rfl⟩
    obtain ⟨N, hN⟩ : ∃ N, N = u.heap.size := ⟨_, rfl⟩
    have hmade : MapAt codI N [] w1 := by rw [hw1, hN]; exact MapAt.made _ _
    have hM1 : MapAt codM B rm w1 := by rw [hw1]; exact h.map.kept (World.grownBy_alloc u _ none) (by simp)
    have hBlt := h.map.lt
    obtain ⟨w2, hr2, hm2, hg2, hs2⟩ := hM1.store hu1 hn ha (some N)
    have hl2 := hm2.look (z0 := none) hu1 (hz1 w2) ha
    rw [hM1.srt.get_put] at hl2
    simp only [if_true, Option.getD_some] at hl2
    have hmade2 := hmade.kept hg2 (by simp; omega)
    obtain ⟨w3, hr3, hm3, hg3, hs3⟩ := hmade2.store hu2 (by simp; unfold maxLen; omega) hb v
    have hm2' := hm2.kept hg3 (by simp; omega)
    have hB : Only (oblk B rm) (fun _ => False) u w2 := only_trans (by rw [hw1]; exact only_alloc _) (only_grown hg2 (.inl rfl))
    have hsz1 : w1.heap.size = u.heap.size + 1 := by rw [hw1]; simp
    have Hfin : OutTo codI B rm (fun i => if i = a then sput (rows a) b v else rows i) u w3 := by
      rw [hnil]
      refine ⟨_, h.lay hs hm2' (by omega) (by omega) (sput_ne _ _ _) hm3 (fun k hk hkB => ?_), ⟨hB.grow.trans ⟨hg3.os, hg3.tape, hg3.output, hg3.size⟩, fun k hk hk1 hk2 => ?_⟩, fun k hk => ?_⟩
      · rw [hg3.block k (by omega) (by simp; omega), hg2.block k (by omega) (by simp; omega), hw1]
        exact Below.heap_alloc _ _ k hk
      · rw [hg3.block k (by omega) (by simp; omega)]
        exact hB.block k hk hk1 hk2
      · rcases oblk_put h.map.srt hk with h' | h'
        · exact .inl h'
        · exact .inr (by omega)
    have Hfin := hout _ _ Hfin
    rw [hu] at hl
    have HF := Lib.hid Hfin
    have HL := Lib.hid hl
    have HL2 := Lib.hid hl2
    rw [hw1, hu] at hr2
    rw [hu] at hN
    subst hN
    have HR2 := Lib.hid hr2
    have HR3 := Lib.hid hr3
    have hmk : ∀ w, (Instr.makeMap 241 Option.none).run Tryz.prog w = .ok (.map (some w.heap.size)) (w.alloc (.map #[] 0)) := fun w => run_makeMap _ w
    clear hout Hfin h hs hn hra hl hl2 hr2 hr3 hnil hmade hM1 hm2 hg2 hs2 hmade2 hm3 hg3 hs3 hm2' hB hsz1 hBlt hw1 hmm hu
    have q1 : ∀ bm w, (binOp .eql 241 (.map (some bm)) (.map Option.none)).run Tryz.prog w = .ok (.bool false) w := fun bm w => by kernel_rfl
    have q2 : ∀ w, (binOp .eql 241 (.map Option.none) (.map Option.none)).run Tryz.prog w = .ok (.bool true) w := fun w => by kernel_rfl
    go_enter Tryz.func136, Tryz.ntmps136
    have tok1 : True := trivial
    have tok2 : True := trivial
    go_wp2_with (first
      | (at_lookup; have _t := tok1; refine wpl_look rfl _ _ _ _ rfl rfl rfl HL.out ?_; dsimp only [codM, Option.getD]; clear tok1)
      | (at_lookup; refine wpl_look rfl _ _ _ _ rfl rfl rfl HL2.out ?_; dsimp only [codM])
      | (at_mapUpdate; have _t := tok2; refine wpl_upd rfl _ _ _ _ rfl rfl rfl rfl HR2.out ?_; clear tok2)
      | (at_mapUpdate; refine wpl_upd rfl _ _ _ _ rfl rfl rfl rfl HR3.out ?_)
      | fail)
    exact bodyPost_end (results_none rfl _ _ _) rfl ⟨rfl, HF.out⟩

set_option maxRecDepth 100000 in
set_option maxHeartbeats 2000000 in
theorem lay_U {B : Nat} {rm : List (Int × Option Nat)} {rows : Int → List (Int × Unit)} {w : World} (h : OutAt codU B rm rows w) (hn : rm.length < maxLen) {a b : Int} (hra : (rows a).length < maxLen) (ha : (Lit.int .i64 a).wf = true) (hb : (Lit.int .i64 b).wf = true) (v : Unit) :
    Calls Tryz.prog 89 #[.map (some B), .int .i64 a, .int .i64 b, .agg #[]] w fun e w' => e = .returned (.tuple #[]) ∧ OutTo codU B rm (fun i => if i = a then sput (rows a) b v else rows i) w w' := by
  have hmm := @run_makeMap Tryz.prog
  have hu1 : Tryz.prog.underlying 171 = some (.map 3 221) := Tryz.underlying171
  have hu2 : Tryz.prog.underlying 221 = some (.map 3 190) := Tryz.underlying221
  have hz1 : ∀ w, (zeroValue 221).run Tryz.prog w = .ok (codM.enc none) w := fun w => Tryz.zeroValue221 w
  obtain ⟨u, hu⟩ : ∃ u, u = w.alloc (.cells #[] 190) := ⟨_, rfl⟩
  have h : OutAt codU B rm rows u := by rw [hu]; exact h.block (fun k hk => Below.heap_alloc _ _ k (h.lt hk))
  have hout : ∀ rows' w', OutTo codU B rm rows' u w' → OutTo codU B rm rows' w w' := fun rows' w' ho => by rw [hu] at ho; exact ho.alloc
  cases hs : sget rm a with
  | some x =>
    obtain ⟨b', rfl, h1, h2, h3⟩ := h.at_ a x hs
    obtain ⟨w', hr, hm', hg, hsz⟩ := h3.store hu2 hra hb v
    have hl := h.map.look (z0 := none) hu1 (hz1 u) ha
    rw [hs] at hl
    have Hfin : OutTo codU B rm (fun i => if i = a then sput (rows a) b v else rows i) u w' :=
      ⟨rm, h.upd hs (sput_ne _ _ _) hm' hg, only_grown hg (.inr ⟨a, hs⟩), fun k hk => .inl hk⟩
    have Hfin := hout _ _ Hfin
    rw [hu] at hl hr
    have HF := Lib.hid Hfin
    have HL := Lib.hid hl
    have HR := Lib.hid hr
    clear hout Hfin h h1 h2 h3 hs hm' hg hsz hn hra hl hr hmm hu
    have q1 : ∀ bm w, (binOp .eql 221 (.map (some bm)) (.map Option.none)).run Tryz.prog w = .ok (.bool false) w := fun bm w => by kernel_rfl
    have q2 : ∀ w, (binOp .eql 221 (.map Option.none) (.map Option.none)).run Tryz.prog w = .ok (.bool true) w := fun w => by kernel_rfl
    go_enter Tryz.func89, Tryz.ntmps89
    go_wp2_with (first
      | (at_lookup; refine wpl_look rfl _ _ _ _ rfl rfl rfl HL.out ?_; dsimp only [codM, Option.getD])
      | (at_mapUpdate; refine wpl_upd rfl _ _ _ _ rfl rfl rfl rfl HR.out ?_)
      | fail)
    exact bodyPost_end (results_none rfl _ _ _) rfl ⟨rfl, HF.out⟩
  | none =>
    have hnil := h.isNil hs
    have hl := h.map.look (z0 := none) hu1 (hz1 u) ha
    rw [hs] at hl
    -- a new map, laid in, then written
    obtain ⟨w1, hw1⟩ : ∃ w1, w1 = u.alloc (.map #[] 0) := ⟨_, rfl⟩
    obtain ⟨N, hN⟩ : ∃ N, N = u.heap.size := ⟨_, rfl⟩
    have hmade : MapAt codU N [] w1 := by rw [hw1, hN]; exact MapAt.made _ _
    have hM1 : MapAt codM B rm w1 := by rw [hw1]; exact h.map.kept (World.grownBy_alloc u _ none) (by simp)
    have hBlt := h.map.lt
    obtain ⟨w2, hr2, hm2, hg2, hs2⟩ := hM1.store hu1 hn ha (some N)
    have hl2 := hm2.look (z0 := none) hu1 (hz1 w2) ha
    rw [hM1.srt.get_put] at hl2
    simp only [if_true, Option.getD_some] at hl2
    have hmade2 := hmade.kept hg2 (by simp; omega)
    obtain ⟨w3, hr3, hm3, hg3, hs3⟩ := hmade2.store hu2 (by simp; unfold maxLen; omega) hb v
    have hm2' := hm2.kept hg3 (by simp; omega)
    have hB : Only (oblk B rm) (fun _ => False) u w2 := only_trans (by rw [hw1]; exact only_alloc _) (only_grown hg2 (.inl rfl))
    have hsz1 : w1.heap.size = u.heap.size + 1 := by rw [hw1]; simp
    have Hfin : OutTo codU B rm (fun i => if i = a then sput (rows a) b v else rows i) u w3 := by
      rw [hnil]
      refine ⟨_, h.lay hs hm2' (by omega) (by omega) (sput_ne _ _ _) hm3 (fun k hk hkB => ?_), ⟨hB.grow.trans ⟨hg3.os, hg3.tape, hg3.output, hg3.size⟩, fun k hk hk1 hk2 => ?_⟩, fun k hk => ?_⟩
      · rw [hg3.block k (by omega) (by simp; omega), hg2.block k (by omega) (by simp; omega), hw1]
        exact Below.heap_alloc _ _ k hk
      · rw [hg3.block k (by omega) (by simp; omega)]
        exact hB.block k hk hk1 hk2
      · rcases oblk_put h.map.srt hk with h' | h'
        · exact .inl h'
        · exact .inr (by omega)
    have Hfin := hout _ _ Hfin
    rw [hu] at hl
    have HF := Lib.hid Hfin
    have HL := Lib.hid hl
    have HL2 := Lib.hid hl2
    rw [hw1, hu] at hr2
    rw [hu, World.size_alloc] at hN
    subst hN
    have HR2 := Lib.hid hr2
    have HR3 := Lib.hid hr3
    have hmk : ∀ w, (Instr.makeMap 221 Option.none).run Tryz.prog w = .ok (.map (some w.heap.size)) (w.alloc (.map #[] 0)) := fun w => run_makeMap _ w
    clear hout Hfin h hs hn hra hl hl2 hr2 hr3 hnil hmade hM1 hm2 hg2 hs2 hmade2 hm3 hg3 hs3 hm2' hB hsz1 hBlt hw1 hmm hu
    have q1 : ∀ bm w, (binOp .eql 221 (.map (some bm)) (.map Option.none)).run Tryz.prog w = .ok (.bool false) w := fun bm w => by kernel_rfl
    have q2 : ∀ w, (binOp .eql 221 (.map Option.none) (.map Option.none)).run Tryz.prog w = .ok (.bool true) w := fun w => by kernel_rfl
    go_enter Tryz.func89, Tryz.ntmps89
    have tok1 : True := trivial
    have tok2 : True := trivial
    go_wp2_with (first
      | (at_lookup; have _t := tok1; refine wpl_look rfl _ _ _ _ rfl rfl rfl HL.out ?_; dsimp only [codM, Option.getD]; clear tok1)
      | (at_lookup; refine wpl_look rfl _ _ _ _ rfl rfl rfl HL2.out ?_; dsimp only [codM])
      | (at_mapUpdate; have _t := tok2; refine wpl_upd rfl _ _ _ _ rfl rfl rfl rfl HR2.out ?_; clear tok2)
      | (at_mapUpdate; refine wpl_upd rfl _ _ _ _ rfl rfl rfl rfl HR3.out ?_)
      | fail)
    exact bodyPost_end (results_none rfl _ _ _) rfl ⟨rfl, HF.out⟩

set_option maxRecDepth 100000 in
set_option maxHeartbeats 2000000 in
theorem take_I {B : Nat} {rm : List (Int × Option Nat)} {rows : Int → List (Int × Int)} {w : World} (h : OutAt codI B rm rows w) {a b : Int} (hr0 : rows a ≠ []) (hlen : (rows a).length ≤ 1000000) (ha : (Lit.int .i64 a).wf = true) (hb : (Lit.int .i64 b).wf = true) :
    Calls Tryz.prog 135 #[.map (some B), .int .i64 a, .int .i64 b] w fun e w' => e = .returned (.tuple #[]) ∧ OutTo codI B rm (fun i => if i = a then sdel (rows a) b else rows i) w w' := by
  have hu1 : Tryz.prog.underlying 207 = some (.map 3 241) := Tryz.underlying207
  have hu2 : Tryz.prog.underlying 241 = some (.map 3 3) := Tryz.underlying241
  have hz1 : ∀ w, (zeroValue 241).run Tryz.prog w = .ok (codM.enc none) w := fun w => Tryz.zeroValue241 w
  obtain ⟨b', hs⟩ := h.has a hr0
  obtain ⟨b1, e, h1, h2, h3⟩ := h.at_ a _ hs
  obtain rfl : b' = b1 := by simpa using e
  have hl := h.map.look (z0 := none) hu1 (hz1 w) ha
  rw [hs] at hl
  obtain ⟨w1, hr1, hm1, hg1, hs1⟩ := h3.drop hu2 hb 0
  have hr1' : ∀ ty, (Builtin.delete_ #[241, 3] ty #[.map (some b'), .int .i64 b]).run Tryz.prog w = .ok (.tuple #[]) w1 := fun ty => hr1
  have hM1 : MapAt codM B rm w1 := h.map.kept hg1 (by simp; exact fun e => h2 e.symm)
  have hl2 := hM1.look (z0 := none) hu1 (hz1 w1) ha
  rw [hs] at hl2
  have hln := hm1.len hu2 0
  have hln' : ∀ ty, (Builtin.len_ #[241] ty #[.map (some b')]).run Tryz.prog w1 = .ok (.int .i64 (sdel (rows a) b).length) w1 := fun ty => hln
  have hO1 : Only (oblk B rm) (fun _ => False) w w1 := only_grown hg1 (.inr ⟨a, hs⟩)
  have hdl : (sdel (rows a) b).length ≤ 1000000 := Nat.le_trans (List.length_filter_le _ _) hlen
  by_cases hz : sdel (rows a) b = []
  · obtain ⟨w2, hr2, hm2, hg2, hs2⟩ := hM1.drop hu1 ha 0
    have hr2' : ∀ ty, (Builtin.delete_ #[207, 3] ty #[.map (some B), .int .i64 a]).run Tryz.prog w1 = .ok (.tuple #[]) w2 := fun ty => hr2
    rw [hz] at hln'
    have Hfin : OutTo codI B rm (fun i => if i = a then sdel (rows a) b else rows i) w w2 := by
      rw [hz]
      refine ⟨_, h.gone hs hm2 (fun k hk hk1 hk2 => ?_), only_trans hO1 (only_grown hg2 (.inl rfl)), fun k hk => .inl (oblk_del h.map.srt hk)⟩
      rw [hg2.block k (by omega) (by simpa using hk1), hg1.block k hk (by simpa using hk2)]
    have HF := Lib.hid Hfin
    have HL := Lib.hid hl
    have HL2 := Lib.hid hl2
    have HR1 := Lib.hid hr1'
    have HR2 := Lib.hid hr2'
    have HN := Lib.hid hln'
    clear Hfin h hs hl hl2 hr1 hr1' hr2 hr2' hln hln' hM1 hm1 hm2 hg1 hg2 hs1 hs2 hO1 hdl hz h1 h2 h3 e hr0 hlen
    go_enter Tryz.func135, Tryz.ntmps135
    have tok1 : True := trivial
    have tok2 : True := trivial
    go_wp2_with (first
      | (at_lookup; have _t := tok1; refine wpl_look rfl _ _ _ _ rfl rfl rfl HL.out ?_; dsimp only [codM, Option.getD]; clear tok1)
      | (at_lookup; refine wpl_look rfl _ _ _ _ rfl rfl rfl HL2.out ?_; dsimp only [codM, Option.getD])
      | (at_delete; have _t := tok2; refine wpl_drop rfl _ _ _ _ rfl rfl rfl (HR1.out _) ?_; clear tok2)
      | (at_delete; refine wpl_drop rfl _ _ _ _ rfl rfl rfl (HR2.out _) ?_)
      | (at_len; refine wpl_len rfl _ _ rfl rfl (HN.out _) ?_; dsimp only [List.length_nil])
      | fail)
    exact bodyPost_end (results_none rfl _ _ _) rfl ⟨rfl, HF.out⟩
  · have Hfin : OutTo codI B rm (fun i => if i = a then sdel (rows a) b else rows i) w w1 :=
      ⟨rm, h.upd hs hz hm1 hg1, hO1, fun k hk => .inl hk⟩
    obtain ⟨n, hn⟩ : ∃ n, n = (sdel (rows a) b).length := ⟨_, rfl⟩
    have hpos : 0 < n := by rw [hn]; exact List.length_pos_iff.2 hz
    have hne : (decide ((n : Int) = 0)) = false := by simp; omega
    have hne' : ((n : Int) == 0) = false := by simp; omega
    rw [← hn] at hln' hdl
    have HF := Lib.hid Hfin
    have HL := Lib.hid hl
    have HL2 := Lib.hid hl2
    have HR1 := Lib.hid hr1'
    have HN := Lib.hid hln'
    clear Hfin h hs hl hl2 hr1 hr1' hln hln' hM1 hm1 hg1 hs1 hO1 hz h1 h2 h3 e hr0 hlen hn
    go_enter Tryz.func135, Tryz.ntmps135
    have tok1 : True := trivial
    go_wp2_with (first
      | (at_lookup; have _t := tok1; refine wpl_look rfl _ _ _ _ rfl rfl rfl HL.out ?_; dsimp only [codM, Option.getD]; clear tok1)
      | (at_lookup; refine wpl_look rfl _ _ _ _ rfl rfl rfl HL2.out ?_; dsimp only [codM, Option.getD])
      | (at_delete; refine wpl_drop rfl _ _ _ _ rfl rfl rfl (HR1.out _) ?_)
      | (at_len; refine wpl_len rfl _ _ rfl rfl (HN.out _) ?_)
      | fail)
    exact bodyPost_end (results_none rfl _ _ _) rfl ⟨rfl, HF.out⟩

set_option maxRecDepth 100000 in
set_option maxHeartbeats 2000000 in
theorem take_U {B : Nat} {rm : List (Int × Option Nat)} {rows : Int → List (Int × Unit)} {w : World} (h : OutAt codU B rm rows w) {a b : Int} (hr0 : rows a ≠ []) (hlen : (rows a).length ≤ 1000000) (ha : (Lit.int .i64 a).wf = true) (hb : (Lit.int .i64 b).wf = true) :
    Calls Tryz.prog 99 #[.map (some B), .int .i64 a, .int .i64 b] w fun e w' => e = .returned (.tuple #[]) ∧ OutTo codU B rm (fun i => if i = a then sdel (rows a) b else rows i) w w' := by
  have hu1 : Tryz.prog.underlying 171 = some (.map 3 221) := Tryz.underlying171
  have hu2 : Tryz.prog.underlying 221 = some (.map 3 190) := Tryz.underlying221
  have hz1 : ∀ w, (zeroValue 221).run Tryz.prog w = .ok (codM.enc none) w := fun w => Tryz.zeroValue221 w
  obtain ⟨b', hs⟩ := h.has a hr0
  obtain ⟨b1, e, h1, h2, h3⟩ := h.at_ a _ hs
  obtain rfl : b' = b1 := by simpa using e
  have hl := h.map.look (z0 := none) hu1 (hz1 w) ha
  rw [hs] at hl
  obtain ⟨w1, hr1, hm1, hg1, hs1⟩ := h3.drop hu2 hb 0
  have hr1' : ∀ ty, (Builtin.delete_ #[221, 3] ty #[.map (some b'), .int .i64 b]).run Tryz.prog w = .ok (.tuple #[]) w1 := fun ty => hr1
  have hM1 : MapAt codM B rm w1 := h.map.kept hg1 (by simp; exact fun e => h2 e.symm)
  have hl2 := hM1.look (z0 := none) hu1 (hz1 w1) ha
  rw [hs] at hl2
  have hln := hm1.len hu2 0
  have hln' : ∀ ty, (Builtin.len_ #[221] ty #[.map (some b')]).run Tryz.prog w1 = .ok (.int .i64 (sdel (rows a) b).length) w1 := fun ty => hln
  have hO1 : Only (oblk B rm) (fun _ => False) w w1 := only_grown hg1 (.inr ⟨a, hs⟩)
  have hdl : (sdel (rows a) b).length ≤ 1000000 := Nat.le_trans (List.length_filter_le _ _) hlen
  by_cases hz : sdel (rows a) b = []
  · obtain ⟨w2, hr2, hm2, hg2, hs2⟩ := hM1.drop hu1 ha 0
    have hr2' : ∀ ty, (Builtin.delete_ #[171, 3] ty #[.map (some B), .int .i64 a]).run Tryz.prog w1 = .ok (.tuple #[]) w2 := fun ty => hr2
    rw [hz] at hln'
    have Hfin : OutTo codU B rm (fun i => if i = a then sdel (rows a) b else rows i) w w2 := by
      rw [hz]
      refine ⟨_, h.gone hs hm2 (fun k hk hk1 hk2 => ?_), only_trans hO1 (only_grown hg2 (.inl rfl)), fun k hk => .inl (oblk_del h.map.srt hk)⟩
      rw [hg2.block k (by omega) (by simpa using hk1), hg1.block k hk (by simpa using hk2)]
    have HF := Lib.hid Hfin
    have HL := Lib.hid hl
    have HL2 := Lib.hid hl2
    have HR1 := Lib.hid hr1'
    have HR2 := Lib.hid hr2'
    have HN := Lib.hid hln'
    clear Hfin h hs hl hl2 hr1 hr1' hr2 hr2' hln hln' hM1 hm1 hm2 hg1 hg2 hs1 hs2 hO1 hdl hz h1 h2 h3 e hr0 hlen
    go_enter Tryz.func99, Tryz.ntmps99
    have tok1 : True := trivial
    have tok2 : True := trivial
    go_wp2_with (first
      | (at_lookup; have _t := tok1; refine wpl_look rfl _ _ _ _ rfl rfl rfl HL.out ?_; dsimp only [codM, Option.getD]; clear tok1)
      | (at_lookup; refine wpl_look rfl _ _ _ _ rfl rfl rfl HL2.out ?_; dsimp only [codM, Option.getD])
      | (at_delete; have _t := tok2; refine wpl_drop rfl _ _ _ _ rfl rfl rfl (HR1.out _) ?_; clear tok2)
      | (at_delete; refine wpl_drop rfl _ _ _ _ rfl rfl rfl (HR2.out _) ?_)
      | (at_len; refine wpl_len rfl _ _ rfl rfl (HN.out _) ?_; dsimp only [List.length_nil])
      | fail)
    exact bodyPost_end (results_none rfl _ _ _) rfl ⟨rfl, HF.out⟩
  · have Hfin : OutTo codU B rm (fun i => if i = a then sdel (rows a) b else rows i) w w1 :=
      ⟨rm, h.upd hs hz hm1 hg1, hO1, fun k hk => .inl hk⟩
    obtain ⟨n, hn⟩ : ∃ n, n = (sdel (rows a) b).length := ⟨_, rfl⟩
    have hpos : 0 < n := by rw [hn]; exact List.length_pos_iff.2 hz
    have hne : (decide ((n : Int) = 0)) = false := by simp; omega
    have hne' : ((n : Int) == 0) = false := by simp; omega
    rw [← hn] at hln' hdl
    have HF := Lib.hid Hfin
    have HL := Lib.hid hl
    have HL2 := Lib.hid hl2
    have HR1 := Lib.hid hr1'
    have HN := Lib.hid hln'
    clear Hfin h hs hl hl2 hr1 hr1' hln hln' hM1 hm1 hg1 hs1 hO1 hz h1 h2 h3 e hr0 hlen hn
    go_enter Tryz.func99, Tryz.ntmps99
    have tok1 : True := trivial
    go_wp2_with (first
      | (at_lookup; have _t := tok1; refine wpl_look rfl _ _ _ _ rfl rfl rfl HL.out ?_; dsimp only [codM, Option.getD]; clear tok1)
      | (at_lookup; refine wpl_look rfl _ _ _ _ rfl rfl rfl HL2.out ?_; dsimp only [codM, Option.getD])
      | (at_delete; refine wpl_drop rfl _ _ _ _ rfl rfl rfl (HR1.out _) ?_)
      | (at_len; refine wpl_len rfl _ _ rfl rfl (HN.out _) ?_)
      | fail)
    exact bodyPost_end (results_none rfl _ _ _) rfl ⟨rfl, HF.out⟩
end Go.Proofs.YtpkamfbjgdmmoaaGreat
end

section
namespace Go.Proofs.YtpkamfbjgdmmoaaGreat
open Go.RowKit Go.Maps
set_option linter.unusedVariables false
set_option linter.unusedSimpArgs false

/-- A column's marks. -/
def colU {β : Type} (M : Cls β) (b : Int) : List (Int × Unit) := (colOf M b).map (fun x => (x.1, ()))
theorem mem_colU {β : Type} {M : Cls β} {b : Int} {x : Int × Unit} : x ∈ colU M b ↔ ∃ v, (x.1, v) ∈ colOf M b := by
  unfold colU
  rw [List.mem_map]
  constructor
  · rintro ⟨y, hy, rfl⟩
    exact ⟨y.2, hy⟩
  · rintro ⟨v, hv⟩
    exact ⟨_, hv, rfl⟩
theorem srt_colU {β : Type} {M : Cls β} (h : SrtC M) (b : Int) : SrtK (colU M b) := List.pairwise_map.2 ((h.col b).imp (fun {x y} hxy => hxy))
theorem colU_length {β : Type} (M : Cls β) (b : Int) : (colU M b).length ≤ M.length := by unfold colU; rw [List.length_map]; exact col_length M b
theorem colU_put {β : Type} {M : Cls β} (h : SrtC M) (a b : Int) (v : β) : (fun j => if j = b then sput (colU M b) a () else colU M j) = colU (cput M a b v) := by
  funext j
  split
  · rename_i e; subst e
    refine ((srt_colU h j).put _ _).ext (srt_colU (h.put _ _ _) _) ?_
    rintro ⟨i, u⟩
    rw [mem_sput, mem_colU, mem_colU, h.col_put]
    simp only [if_true]
    constructor
    · rintro (h' | ⟨⟨v', h'⟩, hne⟩)
      · cases h'; exact ⟨v, mem_sput.2 (.inl rfl)⟩
      · exact ⟨v', mem_sput.2 (.inr ⟨h', hne⟩)⟩
    · rintro ⟨v', h'⟩
      rcases mem_sput.1 h' with h' | ⟨h', hne⟩
      · simp at h'; exact .inl (by rw [h'.1])
      · exact .inr ⟨⟨v', h'⟩, hne⟩
  · rename_i e
    unfold colU
    rw [h.col_put, if_neg e]
theorem colU_del {β : Type} {M : Cls β} (h : SrtC M) (a b : Int) : (fun j => if j = b then sdel (colU M b) a else colU M j) = colU (cdel M a b) := by
  funext j
  split
  · rename_i e; subst e
    refine ((srt_colU h j).del _).ext (srt_colU (h.del _ _) _) ?_
    rintro ⟨i, u⟩
    rw [mem_sdel, mem_colU, mem_colU, h.col_del]
    simp only [if_true]
    constructor
    · rintro ⟨⟨v', h'⟩, hne⟩
      exact ⟨v', mem_sdel.2 ⟨h', hne⟩⟩
    · rintro ⟨v', h'⟩
      obtain ⟨h', hne⟩ := mem_sdel.1 h'
      exact ⟨⟨v', h'⟩, hne⟩
  · rename_i e
    unfold colU
    rw [h.col_del, if_neg e]
theorem rowOf_put {β : Type} {M : Cls β} (h : SrtC M) (a b : Int) (v : β) : (fun i => if i = a then sput (rowOf M a) b v else rowOf M i) = rowOf (cput M a b v) := by
  funext i; rw [h.row_put]
theorem rowOf_del {β : Type} {M : Cls β} (h : SrtC M) (a b : Int) : (fun i => if i = a then sdel (rowOf M a) b else rowOf M i) = rowOf (cdel M a b) := by
  funext i; rw [h.row_del]

/-- The maps of a table. -/
structure MapsAt {β : Type} (c : Cod β) (B C : Nat) (rm cm : List (Int × Option Nat)) (M : Cls β) (w : World) : Prop where
  row : OutAt c B rm (rowOf M) w
  col : OutAt codU C cm (colU M) w
  off : ∀ k, oblk B rm k → ¬ oblk C cm k
/-- A table in memory: its struct lies in g, all of it in F. -/
def GrAt {β : Type} (c : Cod β) (T : TypeId) (g : Nat) (M : Cls β) (F : FP) (w : World) : Prop :=
  SrtC M ∧ F g ∧ (∀ k, F k → k < w.heap.size) ∧
    ((M = [] ∧ w.heap[g]? = some (.cells #[.map none, .map none, .int .i64 0] T (0, 0))) ∨
     ∃ B C rm cm, w.heap[g]? = some (.cells #[.map (some B), .map (some C), .int .i64 M.length] T (0, 0)) ∧ MapsAt c B C rm cm M w ∧ (∀ k, oblk B rm k → F k) ∧ (∀ k, oblk C cm k → F k))
section
variable {β : Type} {c : Cod β} {T : TypeId} {g : Nat} {M : Cls β} {F : FP} {w : World}
theorem GrAt.keep {w' : World} (h : GrAt c T g M F w) (hg : Grow w w') (hb : ∀ k, F k → w'.heap[k]? = w.heap[k]?) : GrAt c T g M F w' := by
  obtain ⟨h1, h2, h3, h4⟩ := h
  refine ⟨h1, h2, fun k hk => Nat.lt_of_lt_of_le (h3 k hk) hg.size, ?_⟩
  rcases h4 with ⟨e, hh⟩ | ⟨B, C, rm, cm, hh, hM, hF1, hF2⟩
  · exact .inl ⟨e, (hb g h2).trans hh⟩
  · exact .inr ⟨B, C, rm, cm, (hb g h2).trans hh, ⟨hM.row.block (fun k hk => hb k (hF1 k hk)), hM.col.block (fun k hk => hb k (hF2 k hk)), hM.off⟩, hF1, hF2⟩
/-- As many rows as cells, at most. -/
theorem outer_length {B : Nat} {rm : List (Int × Option Nat)} (h : OutAt c B rm (rowOf M) w) (hs : SrtC M) : rm.length ≤ M.length := by
  have hk : (rm.map (·.1)).Pairwise (· < ·) := List.pairwise_map.2 h.map.srt
  have e := hs.flat hk h.keys
  have h1 : M.length = ((rm.map (·.1)).map (fun a => (rowOf M a).length)).sum := by
    conv => lhs; rw [← e]
    rw [List.length_flatMap]
    simp
  have h2 : ∀ l : List Int, (∀ a ∈ l, rowOf M a ≠ []) → l.length ≤ (l.map (fun a => (rowOf M a).length)).sum := by
    intro l
    induction l with
    | nil => simp
    | cons a l ih =>
      intro hl
      have := List.length_pos_iff.2 (hl a (by simp))
      have := ih (fun b hb => hl b (List.mem_cons_of_mem _ hb))
      simp
      omega
  have := h2 (rm.map (·.1)) (fun a ha => (h.keys a).1 ha)
  rw [h1]
  simpa using this
theorem nodup_le : ∀ {ks l : List Int}, ks.Nodup → (∀ x ∈ ks, x ∈ l) → ks.length ≤ l.length
  | [], l, _, _ => Nat.zero_le _
  | k :: ks, l, hn, hs => by
    have hk := List.nodup_cons.1 hn
    have := nodup_le (l := l.erase k) hk.2 (fun x hx => (List.mem_erase_of_ne (fun e => hk.1 (by rw [← e]; exact hx))).2 (hs x (List.mem_cons_of_mem _ hx)))
    rw [List.length_erase_of_mem (hs k (by simp))] at this
    have := List.length_pos_of_mem (hs k (by simp))
    simp
    omega
/-- .. and as many columns. -/
theorem cols_length {C : Nat} {cm : List (Int × Option Nat)} (h : OutAt codU C cm (colU M) w) : cm.length ≤ M.length := by
  have hk : (cm.map (·.1)).Nodup := List.pairwise_map.2 (h.map.srt.imp (fun {a b} hab => by omega))
  have := nodup_le (l := M.map (fun x => x.1.2)) hk (fun b hb => by
    obtain ⟨x, hx⟩ := List.exists_mem_of_ne_nil _ ((h.keys b).1 hb)
    obtain ⟨v, hv⟩ := mem_colU.1 hx
    exact List.mem_map.2 ⟨_, mem_colOf.1 hv, rfl⟩)
  simpa using this
end

theorem grid_New_I (w : World) : Calls Tryz.prog 70 #[] w fun e w' => e = .returned (.pointer (some ⟨w.heap.size, 0, none⟩)) ∧ w' = w.alloc (.cells #[.map none, .map none, .int .i64 0] 209) := by
  go_enter Tryz.func70, Tryz.ntmps70
  go_wp2
  go_ret
  exact ⟨rfl, rfl⟩
theorem GrAt.new_I (w : World) : GrAt codI 209 w.heap.size [] (fun k => k = w.heap.size) (w.alloc (.cells #[.map none, .map none, .int .i64 0] 209)) :=
  ⟨List.Pairwise.nil, rfl, fun k hk => by subst hk; simp, .inl ⟨rfl, World.alloc_heap_new w _⟩⟩
set_option maxRecDepth 100000 in
set_option maxHeartbeats 2000000 in
theorem grid_Get_I {g : Nat} {M : Cls Int} {F : FP} {w : World} (h : GrAt codI 209 g M F w) {a b : Int} (ha : (Lit.int .i64 a).wf = true) (hb : (Lit.int .i64 b).wf = true) :
    Calls Tryz.prog 134 #[.pointer (some ⟨g, 0, none⟩), .int .i64 a, .int .i64 b] w fun e w' => e = .returned (.tuple #[codI.enc ((cget M a b).getD (0 : Int)), .bool (cget M a b).isSome]) ∧ w' = w := by
  have hu1 : Tryz.prog.underlying 207 = some (.map 3 241) := Tryz.underlying207
  have hu2 : Tryz.prog.underlying 241 = some (.map 3 3) := Tryz.underlying241
  have hz1 : ∀ w, (zeroValue 241).run Tryz.prog w = .ok (codM.enc none) w := fun w => Tryz.zeroValue241 w
  have hz2 : ∀ w, (zeroValue 3).run Tryz.prog w = .ok (codI.enc (0 : Int)) w := fun w => Tryz.zeroValue3 w
  have key : ∃ mv mi, w.cell? ⟨g, 0, none⟩ = some (.map mv) ∧ (Instr.lookup 207 (.map mv) (.int .i64 a) false).run Tryz.prog w = .ok (.map mi) w ∧
      (Instr.lookup 241 (.map mi) (.int .i64 b) true).run Tryz.prog w = .ok (.tuple #[codI.enc ((cget M a b).getD (0 : Int)), .bool (cget M a b).isSome]) w := by
    obtain ⟨_, _, _, (⟨rfl, hh⟩ | ⟨B, C, rm, cm, hh, hM, _⟩)⟩ := h
    · refine ⟨none, none, by rw [World.cell?, hh]; rfl, nil_look hu1 (hz1 w) ha false, ?_⟩
      exact nil_look hu2 (hz2 w) hb true
    · have hl := hM.row.map.look (z0 := none) hu1 (hz1 w) ha
      cases hs : sget rm a with
      | none =>
        rw [hs] at hl
        refine ⟨some B, none, by rw [World.cell?, hh]; rfl, hl, ?_⟩
        have hr := hM.row.isNil hs
        have : cget M a b = none := by rw [cget, hr]; rfl
        rw [this]
        exact nil_look hu2 (hz2 w) hb true
      | some x =>
        obtain ⟨b', rfl, _, _, h3⟩ := hM.row.at_ a x hs
        rw [hs] at hl
        exact ⟨some B, some b', by rw [World.cell?, hh]; rfl, hl, h3.look_ok hu2 (hz2 w) hb⟩
  obtain ⟨mv, mi, hc, h1, h2⟩ := key
  obtain ⟨r, hr⟩ : ∃ r, r = codI.enc ((cget M a b).getD (0 : Int)) := ⟨_, rfl⟩
  obtain ⟨q, hq⟩ : ∃ q, q = (cget M a b).isSome := ⟨_, rfl⟩
  rw [← hr, ← hq] at h2
  rw [← hr, ← hq]
  have H1 := Lib.hid h1
  have H2 := Lib.hid h2
  clear h h1 h2 hu1 hu2 hz1 hz2 ha hb hr hq
  go_enter Tryz.func134, Tryz.ntmps134
  have tok1 : True := trivial
  go_wp2_with (first
    | (at_lookup; have _t := tok1; refine wpl_look rfl _ _ _ _ rfl rfl rfl H1.out ?_; clear tok1)
    | (at_lookup; refine wpl_look rfl _ _ _ _ rfl rfl rfl H2.out ?_)
    | fail)
  exact bodyPost_ret (v := .tuple #[r, .bool q]) (by simp [results, Tryz.results134, go_sem] <;> rfl) rfl ⟨rfl, rfl⟩
end Go.Proofs.YtpkamfbjgdmmoaaGreat
end

section
namespace Go.Proofs.YtpkamfbjgdmmoaaGreat
open Go.RowKit Go.Maps
set_option linter.unusedVariables false
set_option linter.unusedSimpArgs false

/-- A number or a truth. -/
def litV : Value → Prop
  | .int _ _ => True
  | .bool _ => True
  | _ => False
def vdat : Value → DataW Unit
  | .int k a => .lit (.int k a)
  | .bool b => .lit (.bool b)
  | _ => .nil
theorem vdat_inj {u v : Value} (hu : litV u) (hv : litV v) (h : vdat u = vdat v) : u = v := by
  cases u <;> simp only [litV] at hu <;> cases v <;> simp only [litV] at hv <;> simp [vdat] at h
  · rw [h]
  · obtain ⟨h1, h2⟩ := h
    subst h1
    first | rw [h2] | (simp at h2; rw [h2])
theorem vdats_inj : ∀ {l m : List Value}, (∀ u ∈ l, litV u) → (∀ u ∈ m, litV u) → l.map vdat = m.map vdat → l = m
  | [], [], _, _, _ => rfl
  | [], _ :: _, _, _, h => by simp at h
  | _ :: _, [], _, _, h => by simp at h
  | a :: l, b :: m, hl, hm, h => by
    simp only [List.map_cons, List.cons.injEq] at h
    rw [vdat_inj (hl a (by simp)) (hm b (by simp)) h.1, vdats_inj (fun u hu => hl u (List.mem_cons_of_mem _ hu)) (fun u hu => hm u (List.mem_cons_of_mem _ hu)) h.2]
theorem litV.one {u : Value} (h : litV u) : u.oneCell' = true := by cases u <;> simp only [litV] at h <;> rfl

/-- A kind of struct: its type, its cells. -/
structure StTy (P : Program) (α : Type) where
  T : TypeId
  k : Nat
  f : α → List Value
  zero : α
  len : ∀ x, (f x).length = k
  lit : ∀ x, ∀ u ∈ f x, litV u
  inj : ∀ x y, f x = f y → x = y
  info : ∃ i0, P.info? T = some i0 ∧ i0.zero = some (.agg (f zero).toArray) ∧ i0.size = k
  row : ∃ d, P.underlying T = some d ∧ d.isRow = true

section
variable {P : Program} {α : Type} {s : StTy P α} {w : World} {ops : Array Oper} {rest : List Oper} {o : Oper} {a : Act} {Q : Exit → Act → World → Prop} {F : Fence} {nF : Nat}
theorem StTy.sizeT (s : StTy P α) : (P.info? s.T).map (·.size) = some s.k := by
  obtain ⟨i0, h1, h2, h3⟩ := s.info
  rw [h1]; simp [h3]
/-- A struct's value. -/
def StTy.v (s : StTy P α) (x : α) : Value := .agg (s.f x).toArray
/-- A struct's place. -/
def StTy.obj (s : StTy P α) (x : α) : Obj := .cells (s.f x).toArray s.T
theorem StTy.zeroRun (s : StTy P α) (w : World) : (zeroValue s.T).run P w = .ok (s.v s.zero) w := by
  obtain ⟨i0, h1, h2, h3⟩ := s.info
  simp [zeroValue, typeInfo, h1, h2, go_sem, StTy.v]
theorem run_loadS {b k : Nat} {t : α} (hr : w.rangeAt b k (s.f t)) : (Instr.loadAt s.T (.pointer (some ⟨b, k, none⟩))).run P w = .ok (s.v t) w := by
  obtain ⟨d, h1, h2⟩ := s.row
  exact run_loadAt_mid w b k s.T (s.f t) d hr h1 h2 (by rw [s.len]; exact s.sizeT)
theorem wpl_loadS {ty : TypeId} {b k : Nat} {t : α} (x : Operand) (ht : ty = s.T) (hgd : o.guard = none) (ho : o.op = .load ty x) (hx : a.eval x = .pointer (some ⟨b, k, none⟩)) (hr : w.rangeAt b k (s.f t))
    (h : wpList P ops Q rest (a.put o.dst (s.v t)) w) : wpList P ops Q (o :: rest) a w := by
  subst ht
  obtain ⟨d, h1, h2⟩ := s.row
  exact wpList_load_mid hgd s.T x ho b k hx (s.f t) d hr h1 h2 (by rw [s.len]; exact s.sizeT) h
theorem wplIn_allocS {ty : TypeId} (ht : ty = s.T) (hgd : o.guard = none) (ho : o.op = .alloc ty)
    (h : wpListIn F nF P ops Q rest (a.put o.dst (.pointer (some ⟨w.heap.size, 0, none⟩))) (w.alloc (s.obj s.zero))) : wpListIn F nF P ops Q (o :: rest) a w := by
  subst ht
  obtain ⟨i0, h1, h2, h3⟩ := s.info
  refine wpListIn_plain hgd fun K hK => ?_
  unfold Oper.wpIn
  refine ⟨by simp [Oper.about, ho], ?_⟩
  rw [Oper.semAt_plain F _ _ (by rw [ho]; intro c hc'; cases hc')]
  unfold execOp
  simp [ho, Instr.alloc, zeroValue, typeInfo, h1, h2, newVar, newRow, Value.cells, go_sem]
  exact hK _ _ h
theorem wpl_allocS {ty : TypeId} (ht : ty = s.T) (hgd : o.guard = none) (ho : o.op = .alloc ty)
    (h : wpList P ops Q rest (a.put o.dst (.pointer (some ⟨w.heap.size, 0, none⟩))) (w.alloc (s.obj s.zero))) : wpList P ops Q (o :: rest) a w := by
  subst ht
  obtain ⟨i0, h1, h2, h3⟩ := s.info
  refine wpList_plain hgd fun K hK => ?_
  unfold Oper.wp execOp
  simp [ho, Instr.alloc, zeroValue, typeInfo, h1, h2, newVar, newRow, Value.cells, go_sem]
  exact hK _ _ h
theorem run_storeS {b : Nat} {t : α} {C : Array Value} (hh : w.heap[b]? = some (.cells C s.T (0, 0))) (hC : C.size = s.k) : (Instr.storeAt s.T (.pointer (some ⟨b, 0, none⟩)) (s.v t)).run P w = .ok () (w.setRow b (s.f t).toArray) := by
  simp only [StTy.v, Instr.storeAt, Instr.sureAddr, Sem.run_bind, Sem.run_pure, Result.andThen_ok, run_storeVar_row w b s.T s.T C (s.f t).toArray hh (by rw [List.size_toArray, s.len]; exact s.sizeT) (by simp [s.len, hC]) (by rw [Array.all_eq_true_iff_forall_mem]; intro u hu; exact (s.lit t u (by simpa using hu)).one)]
theorem wpl_storeS {ty : TypeId} {b : Nat} {t : α} {C : Array Value} (x y : Operand) (ht : ty = s.T) (hgd : o.guard = none) (ho : o.op = .store ty x y) (hx : a.eval x = .pointer (some ⟨b, 0, none⟩)) (hy : a.eval y = s.v t) (hh : w.heap[b]? = some (.cells C s.T (0, 0))) (hC : C.size = s.k)
    (h : wpList P ops Q rest (a.put o.dst undef) (w.setRow b (s.f t).toArray)) : wpList P ops Q (o :: rest) a w := by
  subst ht
  refine wpList_plain hgd fun K hK => ?_
  unfold Oper.wp execOp
  simp only [ho, hx, hy, Sem.run_bind, Sem.run_pure, run_storeS hh hC, Result.andThen_ok]
  exact hK _ _ h
theorem wplIn_storeS {ty : TypeId} {b : Nat} {t : α} {C : Array Value} (x y : Operand) (ht : ty = s.T) (hgd : o.guard = none) (ho : o.op = .store ty x y) (hx : a.eval x = .pointer (some ⟨b, 0, none⟩)) (hy : a.eval y = s.v t) (hh : w.heap[b]? = some (.cells C s.T (0, 0))) (hC : C.size = s.k)
    (h : wpListIn F nF P ops Q rest (a.put o.dst undef) (w.setRow b (s.f t).toArray)) : wpListIn F nF P ops Q (o :: rest) a w := by
  subst ht
  refine wpListIn_plain hgd fun K hK => ?_
  unfold Oper.wpIn
  refine ⟨by simp [Oper.about, ho], ?_⟩
  rw [Oper.semAt_plain F _ _ (by rw [ho]; intro c hc'; cases hc')]
  unfold execOp
  simp only [ho, hx, hy, Sem.run_bind, Sem.run_pure, run_storeS hh hC, Result.andThen_ok]
  exact hK _ _ h
/-- A new struct that is stored to at once. -/
theorem newS (s : StTy P α) (w : World) (t : α) : (w.alloc (s.obj s.zero)).setRow w.heap.size (s.f t).toArray = w.alloc (s.obj t) := World.setRow_alloc_new _ _ _ _
theorem atS (s : StTy P α) (w : World) (t : α) : (w.alloc (s.obj t)).rangeAt w.heap.size 0 (s.f t) := rangeAt_whole (T := s.T) (World.alloc_heap_new _ _)
theorem zeroS (s : StTy P α) : (s.f s.zero).toArray.size = s.k := by simp [s.len]
theorem run_varS {b : Nat} {t : α} (hr : w.rangeAt b 0 (s.f t)) : (loadVar s.T ⟨b, 0, none⟩).run P w = .ok (s.v t) w := by
  obtain ⟨d, h1, h2⟩ := s.row
  exact run_loadVar_mid w b 0 s.T (s.f t) d hr h1 h2 (by rw [s.len]; exact s.sizeT)
theorem results_S2 {fn : Func} {p q : Tmp} (hf : fn.results = #[.cell p s.T, .tmp q]) {tmps : Array Value} {b : Nat} {t : α} {u : Value} (hp : tmps.getD p undef = .pointer (some ⟨b, 0, none⟩)) (hq : tmps.getD q undef = u) (hr : w.rangeAt b 0 (s.f t)) :
    (results fn tmps).run P w = .ok (.tuple #[s.v t, u]) w := by
  have hp' : tmps[p]?.getD undef = .pointer (some ⟨b, 0, none⟩) := by simpa using hp
  have hq' : tmps[q]?.getD undef = u := by simpa using hq
  unfold results
  rw [hf]
  simp [Array.mapM_eq_mapM_toList, hp', hq', asAddr, Sem.run_bind, run_varS hr, Result.andThen]
theorem results_S1 {fn : Func} {p : Tmp} (hf : fn.results = #[.cell p s.T]) {tmps : Array Value} {b : Nat} {t : α} (hp : tmps.getD p undef = .pointer (some ⟨b, 0, none⟩)) (hr : w.rangeAt b 0 (s.f t)) :
    (results fn tmps).run P w = .ok (s.v t) w := by
  have hp' : tmps[p]?.getD undef = .pointer (some ⟨b, 0, none⟩) := by simpa using hp
  unfold results
  rw [hf]
  simp [Array.mapM_eq_mapM_toList, hp', asAddr, Sem.run_bind, run_varS hr, Result.andThen]
/-- As elements of a map. -/
noncomputable def StTy.cod (s : StTy P α) : Cod α where
  enc := s.v
  R := fun v => open Classical in if h : ∃ x, v = s.v x then some (.agg ((s.f h.choose).map vdat), []) else none
  dat := fun x => .agg ((s.f x).map vdat)
  hR := fun x => by
    have h : ∃ y, s.v x = s.v y := ⟨x, rfl⟩
    rw [dif_pos h]
    have e := h.choose_spec
    have e1 : (s.f x).toArray = (s.f h.choose).toArray := by injection e
    have e2 : s.f x = s.f h.choose := congrArg Array.toList e1
    rw [← s.inj _ _ e2]
  inv := fun v z h => by
    split at h
    · rename_i hx
      refine ⟨hx.choose, hx.choose_spec, ?_⟩
      injection h with h
      exact h.symm
    · cases h
  inj := fun x y h => by
    have h' : (s.f x).map vdat = (s.f y).map vdat := by simpa using h
    exact s.inj _ _ (vdats_inj (s.lit x) (s.lit y) h')
end
end Go.Proofs.YtpkamfbjgdmmoaaGreat
end

section
namespace Go.Proofs.YtpkamfbjgdmmoaaGreat
open Go.RowKit Go.Maps
set_option linter.unusedVariables false
set_option linter.unusedSimpArgs false

/-- A ballot. -/
structure Bal where
  k : Int
  aye : Bool
  l : Int
  a : Int
  n : Int
  s : Int
deriving DecidableEq
/-- A delegation. -/
structure Dlg where
  «to» : Int
  l : Int
  n : Int
deriving DecidableEq
/-- Two numbers: a weight, a prior lock. -/
structure Wgt where
  v : Int
  c : Int
deriving DecidableEq
theorem balInfo : (Tryz.prog.info? 47).map (fun i => (i.zero, i.size)) = some (some (.agg #[.int .i64 0, .bool false, .int .i64 0, .int .i64 0, .int .i64 0, .int .i64 0]), 6) := by kernel_rfl
def balS : StTy Tryz.prog Bal where
  T := 47
  k := 6
  f := fun x => [.int .i64 x.k, .bool x.aye, .int .i64 x.l, .int .i64 x.a, .int .i64 x.n, .int .i64 x.s]
  zero := ⟨0, false, 0, 0, 0, 0⟩
  len := fun _ => rfl
  lit := fun x u hu => by
    simp only [List.mem_cons, List.not_mem_nil, or_false] at hu
    rcases hu with rfl | rfl | rfl | rfl | rfl | rfl <;> trivial
  inj := fun x y h => by cases x; cases y; simpa using h
  info := by
    obtain ⟨i0, hi, hz⟩ := Option.map_eq_some_iff.1 balInfo
    simp only [Prod.mk.injEq] at hz
    exact ⟨i0, hi, hz.1, hz.2⟩
  row := ⟨_, Tryz.underlying47, rfl⟩
theorem dlgInfo : (Tryz.prog.info? 115).map (fun i => (i.zero, i.size)) = some (some (.agg #[.int .i64 0, .int .i64 0, .int .i64 0]), 3) := by kernel_rfl
def dlgS : StTy Tryz.prog Dlg where
  T := 115
  k := 3
  f := fun x => [.int .i64 x.to, .int .i64 x.l, .int .i64 x.n]
  zero := ⟨0, 0, 0⟩
  len := fun _ => rfl
  lit := fun x u hu => by
    simp only [List.mem_cons, List.not_mem_nil, or_false] at hu
    rcases hu with rfl | rfl | rfl <;> trivial
  inj := fun x y h => by cases x; cases y; simpa using h
  info := by
    obtain ⟨i0, hi, hz⟩ := Option.map_eq_some_iff.1 dlgInfo
    simp only [Prod.mk.injEq] at hz
    exact ⟨i0, hi, hz.1, hz.2⟩
  row := ⟨_, Tryz.underlying115, rfl⟩
theorem wgtInfo : (Tryz.prog.info? 121).map (fun i => (i.zero, i.size)) = some (some (.agg #[.int .i64 0, .int .i64 0]), 2) := by kernel_rfl
def wgtS : StTy Tryz.prog Wgt where
  T := 121
  k := 2
  f := fun x => [.int .i64 x.v, .int .i64 x.c]
  zero := ⟨0, 0⟩
  len := fun _ => rfl
  lit := fun x u hu => by
    simp only [List.mem_cons, List.not_mem_nil, or_false] at hu
    rcases hu with rfl | rfl <;> trivial
  inj := fun x y h => by cases x; cases y; simpa using h
  info := by
    obtain ⟨i0, hi, hz⟩ := Option.map_eq_some_iff.1 wgtInfo
    simp only [Prod.mk.injEq] at hz
    exact ⟨i0, hi, hz.1, hz.2⟩
  row := ⟨_, Tryz.underlying121, rfl⟩
theorem priInfo : (Tryz.prog.info? 154).map (fun i => (i.zero, i.size)) = some (some (.agg #[.int .i64 0, .int .i64 0]), 2) := by kernel_rfl
def priS : StTy Tryz.prog Wgt where
  T := 154
  k := 2
  f := fun x => [.int .i64 x.v, .int .i64 x.c]
  zero := ⟨0, 0⟩
  len := fun _ => rfl
  lit := fun x u hu => by
    simp only [List.mem_cons, List.not_mem_nil, or_false] at hu
    rcases hu with rfl | rfl <;> trivial
  inj := fun x y h => by cases x; cases y; simpa using h
  info := by
    obtain ⟨i0, hi, hz⟩ := Option.map_eq_some_iff.1 priInfo
    simp only [Prod.mk.injEq] at hz
    exact ⟨i0, hi, hz.1, hz.2⟩
  row := ⟨_, Tryz.underlying154, rfl⟩
end Go.Proofs.YtpkamfbjgdmmoaaGreat
end

section
namespace Go.Proofs.YtpkamfbjgdmmoaaGreat
open Go.RowKit Go.Maps
set_option linter.unusedVariables false
set_option linter.unusedSimpArgs false

/-- What a look at a cell leaves: the result's place, and a place in between. -/
def StTy.getW {P : Program} {α : Type} (s : StTy P α) (w : World) (t : α) : World := ((w.alloc (s.obj s.zero)).alloc (s.obj t)).setRow w.heap.size (s.f t).toArray
theorem StTy.getW_below {P : Program} {α : Type} (s : StTy P α) (w : World) (t : α) : Below w.heap.size w (s.getW w t) := by
  have h1 := ((Below.refl _ w).alloc (Nat.le_refl _) (s.obj s.zero)).alloc (by simp) (s.obj t)
  exact ⟨h1.os, h1.tape, h1.output, by unfold StTy.getW; simpa using h1.size, fun k hk => (setRow_other _ _ _ _ (by omega)).trans (h1.block k hk)⟩

theorem grid_New_V (w : World) : Calls Tryz.prog 73 #[] w fun e w' => e = .returned (.pointer (some ⟨w.heap.size, 0, none⟩)) ∧ w' = w.alloc (.cells #[.map none, .map none, .int .i64 0] 178) := by
  go_enter Tryz.func73, Tryz.ntmps73
  go_wp2
  go_ret
  exact ⟨rfl, rfl⟩
theorem GrAt.new_V (w : World) : GrAt balS.cod 178 w.heap.size [] (fun k => k = w.heap.size) (w.alloc (.cells #[.map none, .map none, .int .i64 0] 178)) :=
  ⟨List.Pairwise.nil, rfl, fun k hk => by subst hk; simp, .inl ⟨rfl, World.alloc_heap_new w _⟩⟩
set_option maxRecDepth 100000 in
set_option maxHeartbeats 2000000 in
theorem grid_GetE_V {g : Nat} {M : Cls Bal} {F : FP} {w : World} (h : GrAt balS.cod 178 g M F w) {a b : Int} (ha : (Lit.int .i64 a).wf = true) (hb : (Lit.int .i64 b).wf = true) :
    Calls Tryz.prog 45 #[.pointer (some ⟨g, 0, none⟩), .int .i64 a, .int .i64 b] w fun e w' => e = .returned (.tuple #[balS.v ((cget M a b).getD balS.zero), .bool (cget M a b).isSome]) ∧ w' = balS.getW w ((cget M a b).getD balS.zero) := by
  have hu1 : Tryz.prog.underlying 176 = some (.map 3 175) := Tryz.underlying176
  have hu2 : Tryz.prog.underlying 175 = some (.map 3 47) := Tryz.underlying175
  have hz1 : ∀ w, (zeroValue 175).run Tryz.prog w = .ok (codM.enc none) w := fun w => Tryz.zeroValue175 w
  have hz2 : ∀ w, (zeroValue 47).run Tryz.prog w = .ok (balS.cod.enc balS.zero) w := fun w => balS.zeroRun w
  obtain ⟨W0, hW0⟩ : ∃ W0, W0 = w.alloc (balS.obj balS.zero) := ⟨_, rfl⟩
  have hB0 : Below w.heap.size w W0 := by rw [hW0]; exact (Below.refl _ w).alloc (Nat.le_refl _) _
  have h0 : GrAt balS.cod 178 g M F W0 := h.keep (Grow.of_below hB0) (fun k hk => hB0.block k (h.2.2.1 k hk))
  have key : ∃ mv mi, W0.cell? ⟨g, 0, none⟩ = some (.map mv) ∧ (Instr.lookup 176 (.map mv) (.int .i64 a) false).run Tryz.prog W0 = .ok (.map mi) W0 ∧
      (Instr.lookup 175 (.map mi) (.int .i64 b) true).run Tryz.prog W0 = .ok (.tuple #[balS.v ((cget M a b).getD balS.zero), .bool (cget M a b).isSome]) W0 := by
    obtain ⟨_, _, _, (⟨rfl, hh⟩ | ⟨B, C, rm, cm, hh, hM, _⟩)⟩ := h0
    · refine ⟨none, none, by rw [World.cell?, hh]; rfl, nil_look hu1 (hz1 W0) ha false, ?_⟩
      exact nil_look hu2 (hz2 W0) hb true
    · have hl := hM.row.map.look (z0 := none) hu1 (hz1 W0) ha
      cases hs : sget rm a with
      | none =>
        rw [hs] at hl
        refine ⟨some B, none, by rw [World.cell?, hh]; rfl, hl, ?_⟩
        have hr := hM.row.isNil hs
        have : cget M a b = none := by rw [cget, hr]; rfl
        rw [this]
        exact nil_look hu2 (hz2 W0) hb true
      | some x =>
        obtain ⟨b', rfl, _, _, h3⟩ := hM.row.at_ a x hs
        rw [hs] at hl
        exact ⟨some B, some b', by rw [World.cell?, hh]; rfl, hl, h3.look_ok hu2 (hz2 W0) hb⟩
  obtain ⟨mv, mi, hc, h1, h2⟩ := key
  obtain ⟨t, ht⟩ : ∃ t, t = (cget M a b).getD balS.zero := ⟨_, rfl⟩
  obtain ⟨q, hq⟩ : ∃ q, q = (cget M a b).isSome := ⟨_, rfl⟩
  rw [← ht, ← hq] at h2
  rw [← ht, ← hq]
  obtain ⟨rb, hrb⟩ : ∃ rb, rb = w.heap.size := ⟨_, rfl⟩
  have hz : W0.heap[rb]? = some (balS.obj balS.zero) := by rw [hW0, hrb]; exact World.alloc_heap_new w _
  have hlt : rb < W0.heap.size := by rw [hW0, hrb]; simp
  have hk0 : (W0.alloc (balS.obj t)).heap[rb]? = some (balS.obj balS.zero) := (Below.heap_alloc _ _ _ hlt).trans hz
  have hr1 : ((W0.alloc (balS.obj t)).setRow rb (balS.f t).toArray).rangeAt rb 0 (balS.f t) := rangeAt_whole (T := balS.T) (setRow_heap _ _ _ _ _ _ hk0)
  have H1 := Lib.hid h1
  have H2 := Lib.hid h2
  have HK := Lib.hid (And.intro hk0 hr1)
  have HW0 := Lib.hid (And.intro hW0 hrb)
  clear h h0 h1 h2 hu1 hu2 hz1 hz2 ha hb ht hq hB0 hW0 hrb hz hk0 hr1 hlt
  go_enter Tryz.func45, Tryz.ntmps45
  have tok1 : True := trivial
  go_upto_region 1 with (first
    | (refine wpl_allocS (s := balS) rfl rfl rfl ?_)
    | fail)
  rw [← HW0.out.1, ← HW0.out.2]
  go_wp2_with (first
    | (at_lookup; have _t := tok1; refine wpl_look rfl _ _ _ _ rfl rfl rfl H1.out ?_; clear tok1)
    | (at_lookup; refine wpl_look rfl _ _ _ _ rfl rfl rfl H2.out ?_)
    | (refine wpl_allocS (s := balS) rfl rfl rfl ?_)
    | (refine wpl_storeS (s := balS) (t := t) (b := W0.heap.size) _ _ rfl rfl rfl rfl rfl (World.alloc_heap_new W0 _) (zeroS balS) ?_; rw [newS])
    | (refine wpl_loadS (s := balS) (t := t) (b := W0.heap.size) (k := 0) _ rfl rfl rfl rfl (atS balS W0 t) ?_)
    | (refine wpl_storeS (s := balS) (t := t) (b := rb) _ _ rfl rfl rfl rfl rfl HK.out.1 (zeroS balS) ?_)
    | fail)
  exact bodyPost_ret (v := .tuple #[balS.v t, .bool q]) (results_S2 (s := balS) Tryz.results45 rfl rfl HK.out.2) rfl ⟨rfl, by rw [HW0.out.1, HW0.out.2]; rfl⟩
theorem grid_Get_V {g : Nat} {M : Cls Bal} {F : FP} {w : World} (h : GrAt balS.cod 178 g M F w) {a b : Int} (ha : (Lit.int .i64 a).wf = true) (hb : (Lit.int .i64 b).wf = true) :
    Calls Tryz.prog 45 #[.pointer (some ⟨g, 0, none⟩), .int .i64 a, .int .i64 b] w fun e w' => e = .returned (.tuple #[balS.v ((cget M a b).getD balS.zero), .bool (cget M a b).isSome]) ∧ Below w.heap.size w w' :=
  (grid_GetE_V h ha hb).mono fun e w' ⟨he, hw⟩ => ⟨he, by rw [hw]; exact balS.getW_below w _⟩

theorem grid_New_D (w : World) : Calls Tryz.prog 74 #[] w fun e w' => e = .returned (.pointer (some ⟨w.heap.size, 0, none⟩)) ∧ w' = w.alloc (.cells #[.map none, .map none, .int .i64 0] 182) := by
  go_enter Tryz.func74, Tryz.ntmps74
  go_wp2
  go_ret
  exact ⟨rfl, rfl⟩
theorem GrAt.new_D (w : World) : GrAt dlgS.cod 182 w.heap.size [] (fun k => k = w.heap.size) (w.alloc (.cells #[.map none, .map none, .int .i64 0] 182)) :=
  ⟨List.Pairwise.nil, rfl, fun k hk => by subst hk; simp, .inl ⟨rfl, World.alloc_heap_new w _⟩⟩
set_option maxRecDepth 100000 in
set_option maxHeartbeats 2000000 in
theorem grid_GetE_D {g : Nat} {M : Cls Dlg} {F : FP} {w : World} (h : GrAt dlgS.cod 182 g M F w) {a b : Int} (ha : (Lit.int .i64 a).wf = true) (hb : (Lit.int .i64 b).wf = true) :
    Calls Tryz.prog 46 #[.pointer (some ⟨g, 0, none⟩), .int .i64 a, .int .i64 b] w fun e w' => e = .returned (.tuple #[dlgS.v ((cget M a b).getD dlgS.zero), .bool (cget M a b).isSome]) ∧ w' = dlgS.getW w ((cget M a b).getD dlgS.zero) := by
  have hu1 : Tryz.prog.underlying 180 = some (.map 3 179) := Tryz.underlying180
  have hu2 : Tryz.prog.underlying 179 = some (.map 3 115) := Tryz.underlying179
  have hz1 : ∀ w, (zeroValue 179).run Tryz.prog w = .ok (codM.enc none) w := fun w => Tryz.zeroValue179 w
  have hz2 : ∀ w, (zeroValue 115).run Tryz.prog w = .ok (dlgS.cod.enc dlgS.zero) w := fun w => dlgS.zeroRun w
  obtain ⟨W0, hW0⟩ : ∃ W0, W0 = w.alloc (dlgS.obj dlgS.zero) := ⟨_, rfl⟩
  have hB0 : Below w.heap.size w W0 := by rw [hW0]; exact (Below.refl _ w).alloc (Nat.le_refl _) _
  have h0 : GrAt dlgS.cod 182 g M F W0 := h.keep (Grow.of_below hB0) (fun k hk => hB0.block k (h.2.2.1 k hk))
  have key : ∃ mv mi, W0.cell? ⟨g, 0, none⟩ = some (.map mv) ∧ (Instr.lookup 180 (.map mv) (.int .i64 a) false).run Tryz.prog W0 = .ok (.map mi) W0 ∧
      (Instr.lookup 179 (.map mi) (.int .i64 b) true).run Tryz.prog W0 = .ok (.tuple #[dlgS.v ((cget M a b).getD dlgS.zero), .bool (cget M a b).isSome]) W0 := by
    obtain ⟨_, _, _, (⟨rfl, hh⟩ | ⟨B, C, rm, cm, hh, hM, _⟩)⟩ := h0
    · refine ⟨none, none, by rw [World.cell?, hh]; rfl, nil_look hu1 (hz1 W0) ha false, ?_⟩
      exact nil_look hu2 (hz2 W0) hb true
    · have hl := hM.row.map.look (z0 := none) hu1 (hz1 W0) ha
      cases hs : sget rm a with
      | none =>
        rw [hs] at hl
        refine ⟨some B, none, by rw [World.cell?, hh]; rfl, hl, ?_⟩
        have hr := hM.row.isNil hs
        have : cget M a b = none := by rw [cget, hr]; rfl
        rw [this]
        exact nil_look hu2 (hz2 W0) hb true
      | some x =>
        obtain ⟨b', rfl, _, _, h3⟩ := hM.row.at_ a x hs
        rw [hs] at hl
        exact ⟨some B, some b', by rw [World.cell?, hh]; rfl, hl, h3.look_ok hu2 (hz2 W0) hb⟩
  obtain ⟨mv, mi, hc, h1, h2⟩ := key
  obtain ⟨t, ht⟩ : ∃ t, t = (cget M a b).getD dlgS.zero := ⟨_, rfl⟩
  obtain ⟨q, hq⟩ : ∃ q, q = (cget M a b).isSome := ⟨_, rfl⟩
  rw [← ht, ← hq] at h2
  rw [← ht, ← hq]
  obtain ⟨rb, hrb⟩ : ∃ rb, rb = w.heap.size := ⟨_, rfl⟩
  have hz : W0.heap[rb]? = some (dlgS.obj dlgS.zero) := by rw [hW0, hrb]; exact World.alloc_heap_new w _
  have hlt : rb < W0.heap.size := by rw [hW0, hrb]; simp
  have hk0 : (W0.alloc (dlgS.obj t)).heap[rb]? = some (dlgS.obj dlgS.zero) := (Below.heap_alloc _ _ _ hlt).trans hz
  have hr1 : ((W0.alloc (dlgS.obj t)).setRow rb (dlgS.f t).toArray).rangeAt rb 0 (dlgS.f t) := rangeAt_whole (T := dlgS.T) (setRow_heap _ _ _ _ _ _ hk0)
  have H1 := Lib.hid h1
  have H2 := Lib.hid h2
  have HK := Lib.hid (And.intro hk0 hr1)
  have HW0 := Lib.hid (And.intro hW0 hrb)
  clear h h0 h1 h2 hu1 hu2 hz1 hz2 ha hb ht hq hB0 hW0 hrb hz hk0 hr1 hlt
  go_enter Tryz.func46, Tryz.ntmps46
  have tok1 : True := trivial
  go_upto_region 1 with (first
    | (refine wpl_allocS (s := dlgS) rfl rfl rfl ?_)
    | fail)
  rw [← HW0.out.1, ← HW0.out.2]
  go_wp2_with (first
    | (at_lookup; have _t := tok1; refine wpl_look rfl _ _ _ _ rfl rfl rfl H1.out ?_; clear tok1)
    | (at_lookup; refine wpl_look rfl _ _ _ _ rfl rfl rfl H2.out ?_)
    | (refine wpl_allocS (s := dlgS) rfl rfl rfl ?_)
    | (refine wpl_storeS (s := dlgS) (t := t) (b := W0.heap.size) _ _ rfl rfl rfl rfl rfl (World.alloc_heap_new W0 _) (zeroS dlgS) ?_; rw [newS])
    | (refine wpl_loadS (s := dlgS) (t := t) (b := W0.heap.size) (k := 0) _ rfl rfl rfl rfl (atS dlgS W0 t) ?_)
    | (refine wpl_storeS (s := dlgS) (t := t) (b := rb) _ _ rfl rfl rfl rfl rfl HK.out.1 (zeroS dlgS) ?_)
    | fail)
  exact bodyPost_ret (v := .tuple #[dlgS.v t, .bool q]) (results_S2 (s := dlgS) Tryz.results46 rfl rfl HK.out.2) rfl ⟨rfl, by rw [HW0.out.1, HW0.out.2]; rfl⟩
theorem grid_Get_D {g : Nat} {M : Cls Dlg} {F : FP} {w : World} (h : GrAt dlgS.cod 182 g M F w) {a b : Int} (ha : (Lit.int .i64 a).wf = true) (hb : (Lit.int .i64 b).wf = true) :
    Calls Tryz.prog 46 #[.pointer (some ⟨g, 0, none⟩), .int .i64 a, .int .i64 b] w fun e w' => e = .returned (.tuple #[dlgS.v ((cget M a b).getD dlgS.zero), .bool (cget M a b).isSome]) ∧ Below w.heap.size w w' :=
  (grid_GetE_D h ha hb).mono fun e w' ⟨he, hw⟩ => ⟨he, by rw [hw]; exact dlgS.getW_below w _⟩

theorem grid_New_W (w : World) : Calls Tryz.prog 75 #[] w fun e w' => e = .returned (.pointer (some ⟨w.heap.size, 0, none⟩)) ∧ w' = w.alloc (.cells #[.map none, .map none, .int .i64 0] 212) := by
  go_enter Tryz.func75, Tryz.ntmps75
  go_wp2
  go_ret
  exact ⟨rfl, rfl⟩
theorem GrAt.new_W (w : World) : GrAt wgtS.cod 212 w.heap.size [] (fun k => k = w.heap.size) (w.alloc (.cells #[.map none, .map none, .int .i64 0] 212)) :=
  ⟨List.Pairwise.nil, rfl, fun k hk => by subst hk; simp, .inl ⟨rfl, World.alloc_heap_new w _⟩⟩
set_option maxRecDepth 100000 in
set_option maxHeartbeats 2000000 in
theorem grid_GetE_W {g : Nat} {M : Cls Wgt} {F : FP} {w : World} (h : GrAt wgtS.cod 212 g M F w) {a b : Int} (ha : (Lit.int .i64 a).wf = true) (hb : (Lit.int .i64 b).wf = true) :
    Calls Tryz.prog 87 #[.pointer (some ⟨g, 0, none⟩), .int .i64 a, .int .i64 b] w fun e w' => e = .returned (.tuple #[wgtS.v ((cget M a b).getD wgtS.zero), .bool (cget M a b).isSome]) ∧ w' = wgtS.getW w ((cget M a b).getD wgtS.zero) := by
  have hu1 : Tryz.prog.underlying 210 = some (.map 3 220) := Tryz.underlying210
  have hu2 : Tryz.prog.underlying 220 = some (.map 3 121) := Tryz.underlying220
  have hz1 : ∀ w, (zeroValue 220).run Tryz.prog w = .ok (codM.enc none) w := fun w => Tryz.zeroValue220 w
  have hz2 : ∀ w, (zeroValue 121).run Tryz.prog w = .ok (wgtS.cod.enc wgtS.zero) w := fun w => wgtS.zeroRun w
  obtain ⟨W0, hW0⟩ : ∃ W0, W0 = w.alloc (wgtS.obj wgtS.zero) := ⟨_, rfl⟩
  have hB0 : Below w.heap.size w W0 := by rw [hW0]; exact (Below.refl _ w).alloc (Nat.le_refl _) _
  have h0 : GrAt wgtS.cod 212 g M F W0 := h.keep (Grow.of_below hB0) (fun k hk => hB0.block k (h.2.2.1 k hk))
  have key : ∃ mv mi, W0.cell? ⟨g, 0, none⟩ = some (.map mv) ∧ (Instr.lookup 210 (.map mv) (.int .i64 a) false).run Tryz.prog W0 = .ok (.map mi) W0 ∧
      (Instr.lookup 220 (.map mi) (.int .i64 b) true).run Tryz.prog W0 = .ok (.tuple #[wgtS.v ((cget M a b).getD wgtS.zero), .bool (cget M a b).isSome]) W0 := by
    obtain ⟨_, _, _, (⟨rfl, hh⟩ | ⟨B, C, rm, cm, hh, hM, _⟩)⟩ := h0
    · refine ⟨none, none, by rw [World.cell?, hh]; rfl, nil_look hu1 (hz1 W0) ha false, ?_⟩
      exact nil_look hu2 (hz2 W0) hb true
    · have hl := hM.row.map.look (z0 := none) hu1 (hz1 W0) ha
      cases hs : sget rm a with
      | none =>
        rw [hs] at hl
        refine ⟨some B, none, by rw [World.cell?, hh]; rfl, hl, ?_⟩
        have hr := hM.row.isNil hs
        have : cget M a b = none := by rw [cget, hr]; rfl
        rw [this]
        exact nil_look hu2 (hz2 W0) hb true
      | some x =>
        obtain ⟨b', rfl, _, _, h3⟩ := hM.row.at_ a x hs
        rw [hs] at hl
        exact ⟨some B, some b', by rw [World.cell?, hh]; rfl, hl, h3.look_ok hu2 (hz2 W0) hb⟩
  obtain ⟨mv, mi, hc, h1, h2⟩ := key
  obtain ⟨t, ht⟩ : ∃ t, t = (cget M a b).getD wgtS.zero := ⟨_, rfl⟩
  obtain ⟨q, hq⟩ : ∃ q, q = (cget M a b).isSome := ⟨_, rfl⟩
  rw [← ht, ← hq] at h2
  rw [← ht, ← hq]
  obtain ⟨rb, hrb⟩ : ∃ rb, rb = w.heap.size := ⟨_, rfl⟩
  have hz : W0.heap[rb]? = some (wgtS.obj wgtS.zero) := by rw [hW0, hrb]; exact World.alloc_heap_new w _
  have hlt : rb < W0.heap.size := by rw [hW0, hrb]; simp
  have hk0 : (W0.alloc (wgtS.obj t)).heap[rb]? = some (wgtS.obj wgtS.zero) := (Below.heap_alloc _ _ _ hlt).trans hz
  have hr1 : ((W0.alloc (wgtS.obj t)).setRow rb (wgtS.f t).toArray).rangeAt rb 0 (wgtS.f t) := rangeAt_whole (T := wgtS.T) (setRow_heap _ _ _ _ _ _ hk0)
  have H1 := Lib.hid h1
  have H2 := Lib.hid h2
  have HK := Lib.hid (And.intro hk0 hr1)
  have HW0 := Lib.hid (And.intro hW0 hrb)
  clear h h0 h1 h2 hu1 hu2 hz1 hz2 ha hb ht hq hB0 hW0 hrb hz hk0 hr1 hlt
  go_enter Tryz.func87, Tryz.ntmps87
  have tok1 : True := trivial
  go_upto_region 1 with (first
    | (refine wpl_allocS (s := wgtS) rfl rfl rfl ?_)
    | fail)
  rw [← HW0.out.1, ← HW0.out.2]
  go_wp2_with (first
    | (at_lookup; have _t := tok1; refine wpl_look rfl _ _ _ _ rfl rfl rfl H1.out ?_; clear tok1)
    | (at_lookup; refine wpl_look rfl _ _ _ _ rfl rfl rfl H2.out ?_)
    | (refine wpl_allocS (s := wgtS) rfl rfl rfl ?_)
    | (refine wpl_storeS (s := wgtS) (t := t) (b := W0.heap.size) _ _ rfl rfl rfl rfl rfl (World.alloc_heap_new W0 _) (zeroS wgtS) ?_; rw [newS])
    | (refine wpl_loadS (s := wgtS) (t := t) (b := W0.heap.size) (k := 0) _ rfl rfl rfl rfl (atS wgtS W0 t) ?_)
    | (refine wpl_storeS (s := wgtS) (t := t) (b := rb) _ _ rfl rfl rfl rfl rfl HK.out.1 (zeroS wgtS) ?_)
    | fail)
  exact bodyPost_ret (v := .tuple #[wgtS.v t, .bool q]) (results_S2 (s := wgtS) Tryz.results87 rfl rfl HK.out.2) rfl ⟨rfl, by rw [HW0.out.1, HW0.out.2]; rfl⟩
theorem grid_Get_W {g : Nat} {M : Cls Wgt} {F : FP} {w : World} (h : GrAt wgtS.cod 212 g M F w) {a b : Int} (ha : (Lit.int .i64 a).wf = true) (hb : (Lit.int .i64 b).wf = true) :
    Calls Tryz.prog 87 #[.pointer (some ⟨g, 0, none⟩), .int .i64 a, .int .i64 b] w fun e w' => e = .returned (.tuple #[wgtS.v ((cget M a b).getD wgtS.zero), .bool (cget M a b).isSome]) ∧ Below w.heap.size w w' :=
  (grid_GetE_W h ha hb).mono fun e w' ⟨he, hw⟩ => ⟨he, by rw [hw]; exact wgtS.getW_below w _⟩

theorem grid_New_Q (w : World) : Calls Tryz.prog 76 #[] w fun e w' => e = .returned (.pointer (some ⟨w.heap.size, 0, none⟩)) ∧ w' = w.alloc (.cells #[.map none, .map none, .int .i64 0] 215) := by
  go_enter Tryz.func76, Tryz.ntmps76
  go_wp2
  go_ret
  exact ⟨rfl, rfl⟩
theorem GrAt.new_Q (w : World) : GrAt priS.cod 215 w.heap.size [] (fun k => k = w.heap.size) (w.alloc (.cells #[.map none, .map none, .int .i64 0] 215)) :=
  ⟨List.Pairwise.nil, rfl, fun k hk => by subst hk; simp, .inl ⟨rfl, World.alloc_heap_new w _⟩⟩
set_option maxRecDepth 100000 in
set_option maxHeartbeats 2000000 in
theorem grid_GetE_Q {g : Nat} {M : Cls Wgt} {F : FP} {w : World} (h : GrAt priS.cod 215 g M F w) {a b : Int} (ha : (Lit.int .i64 a).wf = true) (hb : (Lit.int .i64 b).wf = true) :
    Calls Tryz.prog 125 #[.pointer (some ⟨g, 0, none⟩), .int .i64 a, .int .i64 b] w fun e w' => e = .returned (.tuple #[priS.v ((cget M a b).getD priS.zero), .bool (cget M a b).isSome]) ∧ w' = priS.getW w ((cget M a b).getD priS.zero) := by
  have hu1 : Tryz.prog.underlying 213 = some (.map 3 232) := Tryz.underlying213
  have hu2 : Tryz.prog.underlying 232 = some (.map 3 154) := Tryz.underlying232
  have hz1 : ∀ w, (zeroValue 232).run Tryz.prog w = .ok (codM.enc none) w := fun w => Tryz.zeroValue232 w
  have hz2 : ∀ w, (zeroValue 154).run Tryz.prog w = .ok (priS.cod.enc priS.zero) w := fun w => priS.zeroRun w
  obtain ⟨W0, hW0⟩ : ∃ W0, W0 = w.alloc (priS.obj priS.zero) := ⟨_, rfl⟩
  have hB0 : Below w.heap.size w W0 := by rw [hW0]; exact (Below.refl _ w).alloc (Nat.le_refl _) _
  have h0 : GrAt priS.cod 215 g M F W0 := h.keep (Grow.of_below hB0) (fun k hk => hB0.block k (h.2.2.1 k hk))
  have key : ∃ mv mi, W0.cell? ⟨g, 0, none⟩ = some (.map mv) ∧ (Instr.lookup 213 (.map mv) (.int .i64 a) false).run Tryz.prog W0 = .ok (.map mi) W0 ∧
      (Instr.lookup 232 (.map mi) (.int .i64 b) true).run Tryz.prog W0 = .ok (.tuple #[priS.v ((cget M a b).getD priS.zero), .bool (cget M a b).isSome]) W0 := by
    obtain ⟨_, _, _, (⟨rfl, hh⟩ | ⟨B, C, rm, cm, hh, hM, _⟩)⟩ := h0
    · refine ⟨none, none, by rw [World.cell?, hh]; rfl, nil_look hu1 (hz1 W0) ha false, ?_⟩
      exact nil_look hu2 (hz2 W0) hb true
    · have hl := hM.row.map.look (z0 := none) hu1 (hz1 W0) ha
      cases hs : sget rm a with
      | none =>
        rw [hs] at hl
        refine ⟨some B, none, by rw [World.cell?, hh]; rfl, hl, ?_⟩
        have hr := hM.row.isNil hs
        have : cget M a b = none := by rw [cget, hr]; rfl
        rw [this]
        exact nil_look hu2 (hz2 W0) hb true
      | some x =>
        obtain ⟨b', rfl, _, _, h3⟩ := hM.row.at_ a x hs
        rw [hs] at hl
        exact ⟨some B, some b', by rw [World.cell?, hh]; rfl, hl, h3.look_ok hu2 (hz2 W0) hb⟩
  obtain ⟨mv, mi, hc, h1, h2⟩ := key
  obtain ⟨t, ht⟩ : ∃ t, t = (cget M a b).getD priS.zero := ⟨_, rfl⟩
  obtain ⟨q, hq⟩ : ∃ q, q = (cget M a b).isSome := ⟨_, rfl⟩
  rw [← ht, ← hq] at h2
  rw [← ht, ← hq]
  obtain ⟨rb, hrb⟩ : ∃ rb, rb = w.heap.size := ⟨_, rfl⟩
  have hz : W0.heap[rb]? = some (priS.obj priS.zero) := by rw [hW0, hrb]; exact World.alloc_heap_new w _
  have hlt : rb < W0.heap.size := by rw [hW0, hrb]; simp
  have hk0 : (W0.alloc (priS.obj t)).heap[rb]? = some (priS.obj priS.zero) := (Below.heap_alloc _ _ _ hlt).trans hz
  have hr1 : ((W0.alloc (priS.obj t)).setRow rb (priS.f t).toArray).rangeAt rb 0 (priS.f t) := rangeAt_whole (T := priS.T) (setRow_heap _ _ _ _ _ _ hk0)
  have H1 := Lib.hid h1
  have H2 := Lib.hid h2
  have HK := Lib.hid (And.intro hk0 hr1)
  have HW0 := Lib.hid (And.intro hW0 hrb)
  clear h h0 h1 h2 hu1 hu2 hz1 hz2 ha hb ht hq hB0 hW0 hrb hz hk0 hr1 hlt
  go_enter Tryz.func125, Tryz.ntmps125
  have tok1 : True := trivial
  go_upto_region 1 with (first
    | (refine wpl_allocS (s := priS) rfl rfl rfl ?_)
    | fail)
  rw [← HW0.out.1, ← HW0.out.2]
  go_wp2_with (first
    | (at_lookup; have _t := tok1; refine wpl_look rfl _ _ _ _ rfl rfl rfl H1.out ?_; clear tok1)
    | (at_lookup; refine wpl_look rfl _ _ _ _ rfl rfl rfl H2.out ?_)
    | (refine wpl_allocS (s := priS) rfl rfl rfl ?_)
    | (refine wpl_storeS (s := priS) (t := t) (b := W0.heap.size) _ _ rfl rfl rfl rfl rfl (World.alloc_heap_new W0 _) (zeroS priS) ?_; rw [newS])
    | (refine wpl_loadS (s := priS) (t := t) (b := W0.heap.size) (k := 0) _ rfl rfl rfl rfl (atS priS W0 t) ?_)
    | (refine wpl_storeS (s := priS) (t := t) (b := rb) _ _ rfl rfl rfl rfl rfl HK.out.1 (zeroS priS) ?_)
    | fail)
  exact bodyPost_ret (v := .tuple #[priS.v t, .bool q]) (results_S2 (s := priS) Tryz.results125 rfl rfl HK.out.2) rfl ⟨rfl, by rw [HW0.out.1, HW0.out.2]; rfl⟩
theorem grid_Get_Q {g : Nat} {M : Cls Wgt} {F : FP} {w : World} (h : GrAt priS.cod 215 g M F w) {a b : Int} (ha : (Lit.int .i64 a).wf = true) (hb : (Lit.int .i64 b).wf = true) :
    Calls Tryz.prog 125 #[.pointer (some ⟨g, 0, none⟩), .int .i64 a, .int .i64 b] w fun e w' => e = .returned (.tuple #[priS.v ((cget M a b).getD priS.zero), .bool (cget M a b).isSome]) ∧ Below w.heap.size w w' :=
  (grid_GetE_Q h ha hb).mono fun e w' ⟨he, hw⟩ => ⟨he, by rw [hw]; exact priS.getW_below w _⟩
end Go.Proofs.YtpkamfbjgdmmoaaGreat
end

section
namespace Go.Proofs.YtpkamfbjgdmmoaaGreat
open Go.RowKit Go.Maps
set_option linter.unusedVariables false
set_option linter.unusedSimpArgs false

/-- A referendum. -/
structure Rfm where
  st : Int
  tr : Int
  h : List Nat
  af : Int
  sb : Int
  who : Int
  put : Bool
  bk : Int
  si : Int
  un : Int
  en : Int
  ay : Int
  na : Int
  su : Int
  ok : h.length = 32
deriving DecidableEq
/-- A digest's cells. -/
def hsB (l : List Nat) : List Value := l.map fun (b : Nat) => Value.int .u8 (b : Int)
theorem hsB_len (l : List Nat) : (hsB l).length = l.length := by simp [hsB]
theorem hsB_inj : ∀ {a b : List Nat}, hsB a = hsB b → a = b
  | [], [], _ => rfl
  | [], _ :: _, h => by simp [hsB] at h
  | _ :: _, [], h => by simp [hsB] at h
  | x :: a, y :: b, h => by
    simp only [hsB, List.map_cons, List.cons.injEq, Value.int.injEq, true_and] at h
    have h1 : x = y := by omega
    have h2 := hsB_inj (a := a) (b := b) h.2
    rw [h1, h2]
/-- The digest of nothing but noughts. -/
def hs0 : List Nat := List.replicate 32 0
/-- A referendum's cells. -/
def rfF (x : Rfm) : List Value := .int .i64 x.st :: .int .i64 x.tr :: (hsB x.h ++ [.int .i64 x.af, .int .i64 x.sb, .int .i64 x.who, .bool x.put, .int .i64 x.bk, .int .i64 x.si, .int .i64 x.un, .int .i64 x.en, .int .i64 x.ay, .int .i64 x.na, .int .i64 x.su])
def rf0 : Rfm := ⟨0, 0, hs0, 0, 0, 0, false, 0, 0, 0, 0, 0, 0, 0, rfl⟩
theorem rfF_len (x : Rfm) : (rfF x).length = 45 := by simp [rfF, hsB, x.ok]
theorem rfF_lit (x : Rfm) : ∀ u ∈ rfF x, litV u := by
  intro u hu
  simp only [rfF, hsB, List.mem_cons, List.mem_append, List.mem_map, List.not_mem_nil, or_false] at hu
  rcases hu with rfl | rfl | ⟨x, -, rfl⟩ | rfl | rfl | rfl | rfl | rfl | rfl | rfl | rfl | rfl | rfl | rfl <;> trivial
theorem rfF_inj (a b : Rfm) (h : rfF a = rfF b) : a = b := by
  obtain ⟨a0, a1, a2, a3, a4, a5, a6, a7, a8, a9, b0, b1, b2, b3, ok⟩ := a
  obtain ⟨c0, c1, c2, c3, c4, c5, c6, c7, c8, c9, d0, d1, d2, d3, ok'⟩ := b
  simp only [rfF, List.cons.injEq, Value.int.injEq, true_and] at h
  obtain ⟨rfl, rfl, h⟩ := h
  have hl : (hsB a2).length = (hsB c2).length := by simp only [hsB_len] at *; rw [ok, ok']
  obtain ⟨h1, h2⟩ := List.append_inj h hl
  obtain rfl := hsB_inj h1
  simp only [List.cons.injEq, Value.int.injEq, Value.bool.injEq, true_and, and_true] at h2
  obtain ⟨rfl, rfl, rfl, rfl, rfl, rfl, rfl, rfl, rfl, rfl, rfl⟩ := h2
  rfl
theorem rfInfo : (Tryz.prog.info? 56).map (fun i => (i.zero, i.size)) = some (some (.agg (rfF rf0).toArray), 45) := by kernel_rfl
def rfS : StTy Tryz.prog Rfm where
  T := 56
  k := 45
  f := rfF
  zero := rf0
  len := rfF_len
  lit := rfF_lit
  inj := rfF_inj
  info := by
    obtain ⟨i0, hi, hz⟩ := Option.map_eq_some_iff.1 rfInfo
    simp only [Prod.mk.injEq] at hz
    exact ⟨i0, hi, hz.1, hz.2⟩
  row := ⟨_, Tryz.underlying56, rfl⟩
/-- A referendum's numbers, where they stand. -/
theorem rfF_cells (x : Rfm) : (rfF x)[0]? = some (.int .i64 x.st) ∧ (rfF x)[1]? = some (.int .i64 x.tr) ∧ (rfF x)[34]? = some (.int .i64 x.af) ∧ (rfF x)[35]? = some (.int .i64 x.sb) ∧ (rfF x)[36]? = some (.int .i64 x.who) ∧ (rfF x)[37]? = some (.bool x.put) ∧ (rfF x)[38]? = some (.int .i64 x.bk) ∧ (rfF x)[39]? = some (.int .i64 x.si) ∧ (rfF x)[40]? = some (.int .i64 x.un) ∧ (rfF x)[41]? = some (.int .i64 x.en) ∧ (rfF x)[42]? = some (.int .i64 x.ay) ∧ (rfF x)[43]? = some (.int .i64 x.na) ∧ (rfF x)[44]? = some (.int .i64 x.su) := by
  have hl : (hsB x.h).length = 32 := by rw [hsB_len, x.ok]
  have key : ∀ n, (rfF x)[n + 34]? = ([.int .i64 x.af, .int .i64 x.sb, .int .i64 x.who, .bool x.put, .int .i64 x.bk, .int .i64 x.si, .int .i64 x.un, .int .i64 x.en, .int .i64 x.ay, .int .i64 x.na, .int .i64 x.su] : List Value)[n]? := fun n => by
    unfold rfF
    rw [show n + 34 = (n + 32) + 1 + 1 from rfl, List.getElem?_cons_succ, List.getElem?_cons_succ, List.getElem?_append_right (by omega), hl, Nat.add_sub_cancel]
  exact ⟨rfl, rfl, key 0, key 1, key 2, key 3, key 4, key 5, key 6, key 7, key 8, key 9, key 10⟩
section
variable {w : World} {b : Nat} {x : Rfm}
/-- The cells of a referendum in memory. -/
theorem rf_at (h : w.rangeAt b 0 (rfF x)) : w.cell? ⟨b, 0, none⟩ = some (.int .i64 x.st) ∧ w.cell? ⟨b, 1, none⟩ = some (.int .i64 x.tr) ∧ w.cell? ⟨b, 34, none⟩ = some (.int .i64 x.af) ∧ w.cell? ⟨b, 35, none⟩ = some (.int .i64 x.sb) ∧ w.cell? ⟨b, 36, none⟩ = some (.int .i64 x.who) ∧ w.cell? ⟨b, 37, none⟩ = some (.bool x.put) ∧ w.cell? ⟨b, 38, none⟩ = some (.int .i64 x.bk) ∧ w.cell? ⟨b, 39, none⟩ = some (.int .i64 x.si) ∧ w.cell? ⟨b, 40, none⟩ = some (.int .i64 x.un) ∧ w.cell? ⟨b, 41, none⟩ = some (.int .i64 x.en) := by
  obtain ⟨c0, c1, c2, c3, c4, c5, c6, c7, c8, c9, -⟩ := rfF_cells x
  have k := fun (j : Nat) (u : Value) (hj : (rfF x)[j]? = some u) => h j u hj
  simp only [Nat.zero_add] at k
  exact ⟨k 0 _ c0, k 1 _ c1, k 34 _ c2, k 35 _ c3, k 36 _ c4, k 37 _ c5, k 38 _ c6, k 39 _ c7, k 40 _ c8, k 41 _ c9⟩
end
end Go.Proofs.YtpkamfbjgdmmoaaGreat
end

section
namespace Go.Proofs.YtpkamfbjgdmmoaaGreat
open Go.RowKit Go.Maps
set_option linter.unusedVariables false
set_option linter.unusedSimpArgs false


theorem grid_New_R (w : World) : Calls Tryz.prog 80 #[] w fun e w' => e = .returned (.pointer (some ⟨w.heap.size, 0, none⟩)) ∧ w' = w.alloc (.cells #[.map none, .map none, .int .i64 0] 173) := by
  go_enter Tryz.func80, Tryz.ntmps80
  go_wp2
  go_ret
  exact ⟨rfl, rfl⟩
theorem GrAt.new_R (w : World) : GrAt rfS.cod 173 w.heap.size [] (fun k => k = w.heap.size) (w.alloc (.cells #[.map none, .map none, .int .i64 0] 173)) :=
  ⟨List.Pairwise.nil, rfl, fun k hk => by subst hk; simp, .inl ⟨rfl, World.alloc_heap_new w _⟩⟩
set_option maxRecDepth 100000 in
set_option maxHeartbeats 2000000 in
theorem grid_GetE_R {g : Nat} {M : Cls Rfm} {F : FP} {w : World} (h : GrAt rfS.cod 173 g M F w) {a b : Int} (ha : (Lit.int .i64 a).wf = true) (hb : (Lit.int .i64 b).wf = true) :
    Calls Tryz.prog 61 #[.pointer (some ⟨g, 0, none⟩), .int .i64 a, .int .i64 b] w fun e w' => e = .returned (.tuple #[rfS.v ((cget M a b).getD rfS.zero), .bool (cget M a b).isSome]) ∧ w' = rfS.getW w ((cget M a b).getD rfS.zero) := by
  have hu1 : Tryz.prog.underlying 170 = some (.map 3 200) := Tryz.underlying170
  have hu2 : Tryz.prog.underlying 200 = some (.map 3 56) := Tryz.underlying200
  have hz1 : ∀ w, (zeroValue 200).run Tryz.prog w = .ok (codM.enc none) w := fun w => Tryz.zeroValue200 w
  have hz2 : ∀ w, (zeroValue 56).run Tryz.prog w = .ok (rfS.cod.enc rfS.zero) w := fun w => rfS.zeroRun w
  obtain ⟨W0, hW0⟩ : ∃ W0, W0 = w.alloc (rfS.obj rfS.zero) := ⟨_, rfl⟩
  have hB0 : Below w.heap.size w W0 := by rw [hW0]; exact (Below.refl _ w).alloc (Nat.le_refl _) _
  have h0 : GrAt rfS.cod 173 g M F W0 := h.keep (Grow.of_below hB0) (fun k hk => hB0.block k (h.2.2.1 k hk))
  have key : ∃ mv mi, W0.cell? ⟨g, 0, none⟩ = some (.map mv) ∧ (Instr.lookup 170 (.map mv) (.int .i64 a) false).run Tryz.prog W0 = .ok (.map mi) W0 ∧
      (Instr.lookup 200 (.map mi) (.int .i64 b) true).run Tryz.prog W0 = .ok (.tuple #[rfS.v ((cget M a b).getD rfS.zero), .bool (cget M a b).isSome]) W0 := by
    obtain ⟨_, _, _, (⟨rfl, hh⟩ | ⟨B, C, rm, cm, hh, hM, _⟩)⟩ := h0
    · refine ⟨none, none, by rw [World.cell?, hh]; rfl, nil_look hu1 (hz1 W0) ha false, ?_⟩
      exact nil_look hu2 (hz2 W0) hb true
    · have hl := hM.row.map.look (z0 := none) hu1 (hz1 W0) ha
      cases hs : sget rm a with
      | none =>
        rw [hs] at hl
        refine ⟨some B, none, by rw [World.cell?, hh]; rfl, hl, ?_⟩
        have hr := hM.row.isNil hs
        have : cget M a b = none := by rw [cget, hr]; rfl
        rw [this]
        exact nil_look hu2 (hz2 W0) hb true
      | some x =>
        obtain ⟨b', rfl, _, _, h3⟩ := hM.row.at_ a x hs
        rw [hs] at hl
        exact ⟨some B, some b', by rw [World.cell?, hh]; rfl, hl, h3.look_ok hu2 (hz2 W0) hb⟩
  obtain ⟨mv, mi, hc, h1, h2⟩ := key
  obtain ⟨t, ht⟩ : ∃ t, t = (cget M a b).getD rfS.zero := ⟨_, rfl⟩
  obtain ⟨q, hq⟩ : ∃ q, q = (cget M a b).isSome := ⟨_, rfl⟩
  rw [← ht, ← hq] at h2
  rw [← ht, ← hq]
  obtain ⟨rb, hrb⟩ : ∃ rb, rb = w.heap.size := ⟨_, rfl⟩
  have hz : W0.heap[rb]? = some (rfS.obj rfS.zero) := by rw [hW0, hrb]; exact World.alloc_heap_new w _
  have hlt : rb < W0.heap.size := by rw [hW0, hrb]; simp
  have hk0 : (W0.alloc (rfS.obj t)).heap[rb]? = some (rfS.obj rfS.zero) := (Below.heap_alloc _ _ _ hlt).trans hz
  have hr1 : ((W0.alloc (rfS.obj t)).setRow rb (rfS.f t).toArray).rangeAt rb 0 (rfS.f t) := rangeAt_whole (T := rfS.T) (setRow_heap _ _ _ _ _ _ hk0)
  have H1 := Lib.hid h1
  have H2 := Lib.hid h2
  have HK := Lib.hid (And.intro hk0 hr1)
  have HW0 := Lib.hid (And.intro hW0 hrb)
  clear h h0 h1 h2 hu1 hu2 hz1 hz2 ha hb ht hq hB0 hW0 hrb hz hk0 hr1 hlt
  go_enter Tryz.func61, Tryz.ntmps61
  have tok1 : True := trivial
  go_upto_region 1 with (first
    | (refine wpl_allocS (s := rfS) rfl rfl rfl ?_)
    | fail)
  rw [← HW0.out.1, ← HW0.out.2]
  go_wp2_with (first
    | (at_lookup; have _t := tok1; refine wpl_look rfl _ _ _ _ rfl rfl rfl H1.out ?_; clear tok1)
    | (at_lookup; refine wpl_look rfl _ _ _ _ rfl rfl rfl H2.out ?_)
    | (refine wpl_allocS (s := rfS) rfl rfl rfl ?_)
    | (refine wpl_storeS (s := rfS) (t := t) (b := W0.heap.size) _ _ rfl rfl rfl rfl rfl (World.alloc_heap_new W0 _) (zeroS rfS) ?_; rw [newS])
    | (refine wpl_loadS (s := rfS) (t := t) (b := W0.heap.size) (k := 0) _ rfl rfl rfl rfl (atS rfS W0 t) ?_)
    | (refine wpl_storeS (s := rfS) (t := t) (b := rb) _ _ rfl rfl rfl rfl rfl HK.out.1 (zeroS rfS) ?_)
    | fail)
  exact bodyPost_ret (v := .tuple #[rfS.v t, .bool q]) (results_S2 (s := rfS) Tryz.results61 rfl rfl HK.out.2) rfl ⟨rfl, by rw [HW0.out.1, HW0.out.2]; rfl⟩
theorem grid_Get_R {g : Nat} {M : Cls Rfm} {F : FP} {w : World} (h : GrAt rfS.cod 173 g M F w) {a b : Int} (ha : (Lit.int .i64 a).wf = true) (hb : (Lit.int .i64 b).wf = true) :
    Calls Tryz.prog 61 #[.pointer (some ⟨g, 0, none⟩), .int .i64 a, .int .i64 b] w fun e w' => e = .returned (.tuple #[rfS.v ((cget M a b).getD rfS.zero), .bool (cget M a b).isSome]) ∧ Below w.heap.size w w' :=
  (grid_GetE_R h ha hb).mono fun e w' ⟨he, hw⟩ => ⟨he, by rw [hw]; exact rfS.getW_below w _⟩
theorem GrAt.size_R {g : Nat} {M : Cls Rfm} {F : FP} {w : World} (h : GrAt rfS.cod 173 g M F w) : w.cell? ⟨g, 2, none⟩ = some (.int .i64 M.length) := by
  obtain ⟨_, _, _, (⟨rfl, hh⟩ | ⟨B, C, rm, cm, hh, _⟩)⟩ := h <;> rw [World.cell?, hh] <;> rfl
theorem grid_Len_R {g : Nat} {M : Cls Rfm} {F : FP} {w : World} (h : GrAt rfS.cod 173 g M F w) : Calls Tryz.prog 37 #[.pointer (some ⟨g, 0, none⟩)] w fun e w' => e = .returned (.int .i64 M.length) ∧ w' = w := by
  have hc := h.size_R
  clear h
  go_enter Tryz.func37, Tryz.ntmps37
  go_wp2
  go_ret
  exact ⟨rfl, rfl⟩

end Go.Proofs.YtpkamfbjgdmmoaaGreat
end

section
namespace Go.Proofs.YtpkamfbjgdmmoaaGreat
open Go.RowKit Go.Maps
set_option linter.unusedVariables false
set_option linter.unusedSimpArgs false

set_option maxRecDepth 100000 in
set_option maxHeartbeats 2000000 in
theorem lay_V {B : Nat} {rm : List (Int × Option Nat)} {rows : Int → List (Int × Bal)} {w : World} (h : OutAt balS.cod B rm rows w) (hn : rm.length < maxLen) {a b : Int} (hra : (rows a).length < maxLen) (ha : (Lit.int .i64 a).wf = true) (hb : (Lit.int .i64 b).wf = true) (v : Bal) :
    Calls Tryz.prog 90 #[.map (some B), .int .i64 a, .int .i64 b, .agg (balS.f v).toArray] w fun e w' => e = .returned (.tuple #[]) ∧ OutTo balS.cod B rm (fun i => if i = a then sput (rows a) b v else rows i) w w' := by
  have hmm := @run_makeMap Tryz.prog
  have hBw := h.map.lt
  have hu1 : Tryz.prog.underlying 176 = some (.map 3 175) := Tryz.underlying176
  have hu2 : Tryz.prog.underlying 175 = some (.map 3 47) := Tryz.underlying175
  have hz1 : ∀ w, (zeroValue 175).run Tryz.prog w = .ok (codM.enc none) w := fun w => Tryz.zeroValue175 w
  obtain ⟨u, hu⟩ : ∃ u, u = w.alloc (.cells (balS.f v).toArray 47) := ⟨_, rfl⟩
  have h : OutAt balS.cod B rm rows u := by rw [hu]; exact h.block (fun k hk => Below.heap_alloc _ _ k (h.lt hk))
  have hout : ∀ rows' w', OutTo balS.cod B rm rows' u w' → OutTo balS.cod B rm rows' w w' := fun rows' w' ho => by rw [hu] at ho; exact ho.alloc
  cases hs : sget rm a with
  | some x =>
    obtain ⟨b', rfl, h1, h2, h3⟩ := h.at_ a x hs
    obtain ⟨w', hr, hm', hg, hsz⟩ := h3.store hu2 hra hb v
    have hl := h.map.look (z0 := none) hu1 (hz1 u) ha
    rw [hs] at hl
    have Hfin : OutTo balS.cod B rm (fun i => if i = a then sput (rows a) b v else rows i) u w' :=
      ⟨rm, h.upd hs (sput_ne _ _ _) hm' hg, only_grown hg (.inr ⟨a, hs⟩), fun k hk => .inl hk⟩
    have Hfin := hout _ _ Hfin
    rw [hu] at hl hr
    have HF := Lib.hid Hfin
    have HL := Lib.hid hl
    have HR := Lib.hid hr
    have hrg : (w.alloc (.cells (balS.f v).toArray 47)).rangeAt w.heap.size 0 (balS.f v) := atS balS w v
    have HRG := Lib.hid hrg
    clear hout Hfin h h1 h2 h3 hs hm' hg hsz hn hra hl hr hmm hu hrg hBw
    have q1 : ∀ bm w, (binOp .eql 175 (.map (some bm)) (.map Option.none)).run Tryz.prog w = .ok (.bool false) w := fun bm w => by kernel_rfl
    have q2 : ∀ w, (binOp .eql 175 (.map Option.none) (.map Option.none)).run Tryz.prog w = .ok (.bool true) w := fun w => by kernel_rfl
    go_enter Tryz.func90, Tryz.ntmps90
    go_wp2_with (first
      | (at_lookup; refine wpl_look rfl _ _ _ _ rfl rfl rfl HL.out ?_; dsimp only [codM, Option.getD])
      | (at_mapUpdate; refine wpl_upd rfl _ _ _ _ rfl rfl rfl rfl HR.out ?_)
      | (refine wpl_loadS (s := balS) (t := v) (b := w.heap.size) (k := 0) _ rfl rfl rfl rfl HRG.out ?_)
      | fail)
    exact bodyPost_end (results_none rfl _ _ _) rfl ⟨rfl, HF.out⟩
  | none =>
    have hnil := h.isNil hs
    have hl := h.map.look (z0 := none) hu1 (hz1 u) ha
    rw [hs] at hl
    -- a new map, laid in, then written
    obtain ⟨w1, hw1⟩ : ∃ w1, w1 = u.alloc (.map #[] 0) := ⟨_, rfl⟩
    obtain ⟨N, hN⟩ : ∃ N, N = u.heap.size := ⟨_, rfl⟩
    have hmade : MapAt balS.cod N [] w1 := by rw [hw1, hN]; exact MapAt.made _ _
    have hM1 : MapAt codM B rm w1 := by rw [hw1]; exact h.map.kept (World.grownBy_alloc u _ none) (by simp)
    have hBlt := h.map.lt
    obtain ⟨w2, hr2, hm2, hg2, hs2⟩ := hM1.store hu1 hn ha (some N)
    have hl2 := hm2.look (z0 := none) hu1 (hz1 w2) ha
    rw [hM1.srt.get_put] at hl2
    simp only [if_true, Option.getD_some] at hl2
    have hmade2 := hmade.kept hg2 (by simp; omega)
    obtain ⟨w3, hr3, hm3, hg3, hs3⟩ := hmade2.store hu2 (by simp; unfold maxLen; omega) hb v
    have hm2' := hm2.kept hg3 (by simp; omega)
    have hB : Only (oblk B rm) (fun _ => False) u w2 := only_trans (by rw [hw1]; exact only_alloc _) (only_grown hg2 (.inl rfl))
    have hsz1 : w1.heap.size = u.heap.size + 1 := by rw [hw1]; simp
    have Hfin : OutTo balS.cod B rm (fun i => if i = a then sput (rows a) b v else rows i) u w3 := by
      rw [hnil]
      refine ⟨_, h.lay hs hm2' (by omega) (by omega) (sput_ne _ _ _) hm3 (fun k hk hkB => ?_), ⟨hB.grow.trans ⟨hg3.os, hg3.tape, hg3.output, hg3.size⟩, fun k hk hk1 hk2 => ?_⟩, fun k hk => ?_⟩
      · rw [hg3.block k (by omega) (by simp; omega), hg2.block k (by omega) (by simp; omega), hw1]
        exact Below.heap_alloc _ _ k hk
      · rw [hg3.block k (by omega) (by simp; omega)]
        exact hB.block k hk hk1 hk2
      · rcases oblk_put h.map.srt hk with h' | h'
        · exact .inl h'
        · exact .inr (by omega)
    have hrg : w2.rangeAt w.heap.size 0 (balS.f v) := by
      have hus : w.heap.size < u.heap.size := by rw [hu]; simp
      refine rangeAt_block (w := u) (by rw [hu]; exact atS balS w v) ((hg2.block _ (by omega) (by simp; omega)).trans ?_)
      rw [hw1]; exact Below.heap_alloc _ _ _ hus
    have HRG := Lib.hid hrg
    have Hfin := hout _ _ Hfin
    rw [hu] at hl
    have HF := Lib.hid Hfin
    have HL := Lib.hid hl
    have HL2 := Lib.hid hl2
    rw [hw1, hu] at hr2
    rw [hu, World.size_alloc] at hN
    subst hN
    have HR2 := Lib.hid hr2
    have HR3 := Lib.hid hr3
    have hmk : ∀ w, (Instr.makeMap 175 Option.none).run Tryz.prog w = .ok (.map (some w.heap.size)) (w.alloc (.map #[] 0)) := fun w => run_makeMap _ w
    clear hout Hfin h hs hn hra hl hl2 hr2 hr3 hnil hmade hM1 hm2 hg2 hs2 hmade2 hm3 hg3 hs3 hm2' hB hsz1 hBlt hw1 hmm hu hrg hBw
    have q1 : ∀ bm w, (binOp .eql 175 (.map (some bm)) (.map Option.none)).run Tryz.prog w = .ok (.bool false) w := fun bm w => by kernel_rfl
    have q2 : ∀ w, (binOp .eql 175 (.map Option.none) (.map Option.none)).run Tryz.prog w = .ok (.bool true) w := fun w => by kernel_rfl
    go_enter Tryz.func90, Tryz.ntmps90
    have tok1 : True := trivial
    have tok2 : True := trivial
    go_wp2_with (first
      | (at_lookup; have _t := tok1; refine wpl_look rfl _ _ _ _ rfl rfl rfl HL.out ?_; dsimp only [codM, Option.getD]; clear tok1)
      | (at_lookup; refine wpl_look rfl _ _ _ _ rfl rfl rfl HL2.out ?_; dsimp only [codM])
      | (at_mapUpdate; have _t := tok2; refine wpl_upd rfl _ _ _ _ rfl rfl rfl rfl HR2.out ?_; clear tok2)
      | (at_mapUpdate; refine wpl_upd rfl _ _ _ _ rfl rfl rfl rfl HR3.out ?_)
      | (refine wpl_loadS (s := balS) (t := v) (b := w.heap.size) (k := 0) _ rfl rfl rfl rfl HRG.out ?_)
      | fail)
    exact bodyPost_end (results_none rfl _ _ _) rfl ⟨rfl, HF.out⟩

set_option maxRecDepth 100000 in
set_option maxHeartbeats 2000000 in
theorem take_V {B : Nat} {rm : List (Int × Option Nat)} {rows : Int → List (Int × Bal)} {w : World} (h : OutAt balS.cod B rm rows w) {a b : Int} (hr0 : rows a ≠ []) (hlen : (rows a).length ≤ 1000000) (ha : (Lit.int .i64 a).wf = true) (hb : (Lit.int .i64 b).wf = true) :
    Calls Tryz.prog 100 #[.map (some B), .int .i64 a, .int .i64 b] w fun e w' => e = .returned (.tuple #[]) ∧ OutTo balS.cod B rm (fun i => if i = a then sdel (rows a) b else rows i) w w' := by
  have hu1 : Tryz.prog.underlying 176 = some (.map 3 175) := Tryz.underlying176
  have hu2 : Tryz.prog.underlying 175 = some (.map 3 47) := Tryz.underlying175
  have hz1 : ∀ w, (zeroValue 175).run Tryz.prog w = .ok (codM.enc none) w := fun w => Tryz.zeroValue175 w
  obtain ⟨b', hs⟩ := h.has a hr0
  obtain ⟨b1, e, h1, h2, h3⟩ := h.at_ a _ hs
  obtain rfl : b' = b1 := by simpa using e
  have hl := h.map.look (z0 := none) hu1 (hz1 w) ha
  rw [hs] at hl
  obtain ⟨w1, hr1, hm1, hg1, hs1⟩ := h3.drop hu2 hb 0
  have hr1' : ∀ ty, (Builtin.delete_ #[175, 3] ty #[.map (some b'), .int .i64 b]).run Tryz.prog w = .ok (.tuple #[]) w1 := fun ty => hr1
  have hM1 : MapAt codM B rm w1 := h.map.kept hg1 (by simp; exact fun e => h2 e.symm)
  have hl2 := hM1.look (z0 := none) hu1 (hz1 w1) ha
  rw [hs] at hl2
  have hln := hm1.len hu2 0
  have hln' : ∀ ty, (Builtin.len_ #[175] ty #[.map (some b')]).run Tryz.prog w1 = .ok (.int .i64 (sdel (rows a) b).length) w1 := fun ty => hln
  have hO1 : Only (oblk B rm) (fun _ => False) w w1 := only_grown hg1 (.inr ⟨a, hs⟩)
  have hdl : (sdel (rows a) b).length ≤ 1000000 := Nat.le_trans (List.length_filter_le _ _) hlen
  by_cases hz : sdel (rows a) b = []
  · obtain ⟨w2, hr2, hm2, hg2, hs2⟩ := hM1.drop hu1 ha 0
    have hr2' : ∀ ty, (Builtin.delete_ #[176, 3] ty #[.map (some B), .int .i64 a]).run Tryz.prog w1 = .ok (.tuple #[]) w2 := fun ty => hr2
    rw [hz] at hln'
    have Hfin : OutTo balS.cod B rm (fun i => if i = a then sdel (rows a) b else rows i) w w2 := by
      rw [hz]
      refine ⟨_, h.gone hs hm2 (fun k hk hk1 hk2 => ?_), only_trans hO1 (only_grown hg2 (.inl rfl)), fun k hk => .inl (oblk_del h.map.srt hk)⟩
      rw [hg2.block k (by omega) (by simpa using hk1), hg1.block k hk (by simpa using hk2)]
    have HF := Lib.hid Hfin
    have HL := Lib.hid hl
    have HL2 := Lib.hid hl2
    have HR1 := Lib.hid hr1'
    have HR2 := Lib.hid hr2'
    have HN := Lib.hid hln'
    clear Hfin h hs hl hl2 hr1 hr1' hr2 hr2' hln hln' hM1 hm1 hm2 hg1 hg2 hs1 hs2 hO1 hdl hz h1 h2 h3 e hr0 hlen
    go_enter Tryz.func100, Tryz.ntmps100
    have tok1 : True := trivial
    have tok2 : True := trivial
    go_wp2_with (first
      | (at_lookup; have _t := tok1; refine wpl_look rfl _ _ _ _ rfl rfl rfl HL.out ?_; dsimp only [codM, Option.getD]; clear tok1)
      | (at_lookup; refine wpl_look rfl _ _ _ _ rfl rfl rfl HL2.out ?_; dsimp only [codM, Option.getD])
      | (at_delete; have _t := tok2; refine wpl_drop rfl _ _ _ _ rfl rfl rfl (HR1.out _) ?_; clear tok2)
      | (at_delete; refine wpl_drop rfl _ _ _ _ rfl rfl rfl (HR2.out _) ?_)
      | (at_len; refine wpl_len rfl _ _ rfl rfl (HN.out _) ?_; dsimp only [List.length_nil])
      | fail)
    exact bodyPost_end (results_none rfl _ _ _) rfl ⟨rfl, HF.out⟩
  · have Hfin : OutTo balS.cod B rm (fun i => if i = a then sdel (rows a) b else rows i) w w1 :=
      ⟨rm, h.upd hs hz hm1 hg1, hO1, fun k hk => .inl hk⟩
    obtain ⟨n, hn⟩ : ∃ n, n = (sdel (rows a) b).length := ⟨_, rfl⟩
    have hpos : 0 < n := by rw [hn]; exact List.length_pos_iff.2 hz
    have hne : (decide ((n : Int) = 0)) = false := by simp; omega
    have hne' : ((n : Int) == 0) = false := by simp; omega
    rw [← hn] at hln' hdl
    have HF := Lib.hid Hfin
    have HL := Lib.hid hl
    have HL2 := Lib.hid hl2
    have HR1 := Lib.hid hr1'
    have HN := Lib.hid hln'
    clear Hfin h hs hl hl2 hr1 hr1' hln hln' hM1 hm1 hg1 hs1 hO1 hz h1 h2 h3 e hr0 hlen hn
    go_enter Tryz.func100, Tryz.ntmps100
    have tok1 : True := trivial
    go_wp2_with (first
      | (at_lookup; have _t := tok1; refine wpl_look rfl _ _ _ _ rfl rfl rfl HL.out ?_; dsimp only [codM, Option.getD]; clear tok1)
      | (at_lookup; refine wpl_look rfl _ _ _ _ rfl rfl rfl HL2.out ?_; dsimp only [codM, Option.getD])
      | (at_delete; refine wpl_drop rfl _ _ _ _ rfl rfl rfl (HR1.out _) ?_)
      | (at_len; refine wpl_len rfl _ _ rfl rfl (HN.out _) ?_)
      | fail)
    exact bodyPost_end (results_none rfl _ _ _) rfl ⟨rfl, HF.out⟩

set_option maxRecDepth 100000 in
set_option maxHeartbeats 2000000 in
theorem lay_Q {B : Nat} {rm : List (Int × Option Nat)} {rows : Int → List (Int × Wgt)} {w : World} (h : OutAt priS.cod B rm rows w) (hn : rm.length < maxLen) {a b : Int} (hra : (rows a).length < maxLen) (ha : (Lit.int .i64 a).wf = true) (hb : (Lit.int .i64 b).wf = true) (v : Wgt) :
    Calls Tryz.prog 126 #[.map (some B), .int .i64 a, .int .i64 b, .agg (priS.f v).toArray] w fun e w' => e = .returned (.tuple #[]) ∧ OutTo priS.cod B rm (fun i => if i = a then sput (rows a) b v else rows i) w w' := by
  have hmm := @run_makeMap Tryz.prog
  have hBw := h.map.lt
  have hu1 : Tryz.prog.underlying 213 = some (.map 3 232) := Tryz.underlying213
  have hu2 : Tryz.prog.underlying 232 = some (.map 3 154) := Tryz.underlying232
  have hz1 : ∀ w, (zeroValue 232).run Tryz.prog w = .ok (codM.enc none) w := fun w => Tryz.zeroValue232 w
  obtain ⟨u, hu⟩ : ∃ u, u = w.alloc (.cells (priS.f v).toArray 154) := ⟨_, rfl⟩
  have h : OutAt priS.cod B rm rows u := by rw [hu]; exact h.block (fun k hk => Below.heap_alloc _ _ k (h.lt hk))
  have hout : ∀ rows' w', OutTo priS.cod B rm rows' u w' → OutTo priS.cod B rm rows' w w' := fun rows' w' ho => by rw [hu] at ho; exact ho.alloc
  cases hs : sget rm a with
  | some x =>
    obtain ⟨b', rfl, h1, h2, h3⟩ := h.at_ a x hs
    obtain ⟨w', hr, hm', hg, hsz⟩ := h3.store hu2 hra hb v
    have hl := h.map.look (z0 := none) hu1 (hz1 u) ha
    rw [hs] at hl
    have Hfin : OutTo priS.cod B rm (fun i => if i = a then sput (rows a) b v else rows i) u w' :=
      ⟨rm, h.upd hs (sput_ne _ _ _) hm' hg, only_grown hg (.inr ⟨a, hs⟩), fun k hk => .inl hk⟩
    have Hfin := hout _ _ Hfin
    rw [hu] at hl hr
    have HF := Lib.hid Hfin
    have HL := Lib.hid hl
    have HR := Lib.hid hr
    have hrg : (w.alloc (.cells (priS.f v).toArray 154)).rangeAt w.heap.size 0 (priS.f v) := atS priS w v
    have HRG := Lib.hid hrg
    clear hout Hfin h h1 h2 h3 hs hm' hg hsz hn hra hl hr hmm hu hrg hBw
    have q1 : ∀ bm w, (binOp .eql 232 (.map (some bm)) (.map Option.none)).run Tryz.prog w = .ok (.bool false) w := fun bm w => by kernel_rfl
    have q2 : ∀ w, (binOp .eql 232 (.map Option.none) (.map Option.none)).run Tryz.prog w = .ok (.bool true) w := fun w => by kernel_rfl
    go_enter Tryz.func126, Tryz.ntmps126
    go_wp2_with (first
      | (at_lookup; refine wpl_look rfl _ _ _ _ rfl rfl rfl HL.out ?_; dsimp only [codM, Option.getD])
      | (at_mapUpdate; refine wpl_upd rfl _ _ _ _ rfl rfl rfl rfl HR.out ?_)
      | (refine wpl_loadS (s := priS) (t := v) (b := w.heap.size) (k := 0) _ rfl rfl rfl rfl HRG.out ?_)
      | fail)
    exact bodyPost_end (results_none rfl _ _ _) rfl ⟨rfl, HF.out⟩
  | none =>
    have hnil := h.isNil hs
    have hl := h.map.look (z0 := none) hu1 (hz1 u) ha
    rw [hs] at hl
    -- a new map, laid in, then written
    obtain ⟨w1, hw1⟩ : ∃ w1, w1 = u.alloc (.map #[] 0) := ⟨_, rfl⟩
    obtain ⟨N, hN⟩ : ∃ N, N = u.heap.size := ⟨_, rfl⟩
    have hmade : MapAt priS.cod N [] w1 := by rw [hw1, hN]; exact MapAt.made _ _
    have hM1 : MapAt codM B rm w1 := by rw [hw1]; exact h.map.kept (World.grownBy_alloc u _ none) (by simp)
    have hBlt := h.map.lt
    obtain ⟨w2, hr2, hm2, hg2, hs2⟩ := hM1.store hu1 hn ha (some N)
    have hl2 := hm2.look (z0 := none) hu1 (hz1 w2) ha
    rw [hM1.srt.get_put] at hl2
    simp only [if_true, Option.getD_some] at hl2
    have hmade2 := hmade.kept hg2 (by simp; omega)
    obtain ⟨w3, hr3, hm3, hg3, hs3⟩ := hmade2.store hu2 (by simp; unfold maxLen; omega) hb v
    have hm2' := hm2.kept hg3 (by simp; omega)
    have hB : Only (oblk B rm) (fun _ => False) u w2 := only_trans (by rw [hw1]; exact only_alloc _) (only_grown hg2 (.inl rfl))
    have hsz1 : w1.heap.size = u.heap.size + 1 := by rw [hw1]; simp
    have Hfin : OutTo priS.cod B rm (fun i => if i = a then sput (rows a) b v else rows i) u w3 := by
      rw [hnil]
      refine ⟨_, h.lay hs hm2' (by omega) (by omega) (sput_ne _ _ _) hm3 (fun k hk hkB => ?_), ⟨hB.grow.trans ⟨hg3.os, hg3.tape, hg3.output, hg3.size⟩, fun k hk hk1 hk2 => ?_⟩, fun k hk => ?_⟩
      · rw [hg3.block k (by omega) (by simp; omega), hg2.block k (by omega) (by simp; omega), hw1]
        exact Below.heap_alloc _ _ k hk
      · rw [hg3.block k (by omega) (by simp; omega)]
        exact hB.block k hk hk1 hk2
      · rcases oblk_put h.map.srt hk with h' | h'
        · exact .inl h'
        · exact .inr (by omega)
    have hrg : w2.rangeAt w.heap.size 0 (priS.f v) := by
      have hus : w.heap.size < u.heap.size := by rw [hu]; simp
      refine rangeAt_block (w := u) (by rw [hu]; exact atS priS w v) ((hg2.block _ (by omega) (by simp; omega)).trans ?_)
      rw [hw1]; exact Below.heap_alloc _ _ _ hus
    have HRG := Lib.hid hrg
    have Hfin := hout _ _ Hfin
    rw [hu] at hl
    have HF := Lib.hid Hfin
    have HL := Lib.hid hl
    have HL2 := Lib.hid hl2
    rw [hw1, hu] at hr2
    rw [hu, World.size_alloc] at hN
    subst hN
    have HR2 := Lib.hid hr2
    have HR3 := Lib.hid hr3
    have hmk : ∀ w, (Instr.makeMap 232 Option.none).run Tryz.prog w = .ok (.map (some w.heap.size)) (w.alloc (.map #[] 0)) := fun w => run_makeMap _ w
    clear hout Hfin h hs hn hra hl hl2 hr2 hr3 hnil hmade hM1 hm2 hg2 hs2 hmade2 hm3 hg3 hs3 hm2' hB hsz1 hBlt hw1 hmm hu hrg hBw
    have q1 : ∀ bm w, (binOp .eql 232 (.map (some bm)) (.map Option.none)).run Tryz.prog w = .ok (.bool false) w := fun bm w => by kernel_rfl
    have q2 : ∀ w, (binOp .eql 232 (.map Option.none) (.map Option.none)).run Tryz.prog w = .ok (.bool true) w := fun w => by kernel_rfl
    go_enter Tryz.func126, Tryz.ntmps126
    have tok1 : True := trivial
    have tok2 : True := trivial
    go_wp2_with (first
      | (at_lookup; have _t := tok1; refine wpl_look rfl _ _ _ _ rfl rfl rfl HL.out ?_; dsimp only [codM, Option.getD]; clear tok1)
      | (at_lookup; refine wpl_look rfl _ _ _ _ rfl rfl rfl HL2.out ?_; dsimp only [codM])
      | (at_mapUpdate; have _t := tok2; refine wpl_upd rfl _ _ _ _ rfl rfl rfl rfl HR2.out ?_; clear tok2)
      | (at_mapUpdate; refine wpl_upd rfl _ _ _ _ rfl rfl rfl rfl HR3.out ?_)
      | (refine wpl_loadS (s := priS) (t := v) (b := w.heap.size) (k := 0) _ rfl rfl rfl rfl HRG.out ?_)
      | fail)
    exact bodyPost_end (results_none rfl _ _ _) rfl ⟨rfl, HF.out⟩

end Go.Proofs.YtpkamfbjgdmmoaaGreat
end

section
namespace Go.Proofs.YtpkamfbjgdmmoaaGreat
open Go.RowKit Go.Maps
set_option linter.unusedVariables false
set_option linter.unusedSimpArgs false


set_option maxRecDepth 100000 in
set_option maxHeartbeats 2000000 in
theorem lay_R {B : Nat} {rm : List (Int × Option Nat)} {rows : Int → List (Int × Rfm)} {w : World} (h : OutAt rfS.cod B rm rows w) (hn : rm.length < maxLen) {a b : Int} (hra : (rows a).length < maxLen) (ha : (Lit.int .i64 a).wf = true) (hb : (Lit.int .i64 b).wf = true) (v : Rfm) :
    Calls Tryz.prog 110 #[.map (some B), .int .i64 a, .int .i64 b, .agg (rfS.f v).toArray] w fun e w' => e = .returned (.tuple #[]) ∧ OutTo rfS.cod B rm (fun i => if i = a then sput (rows a) b v else rows i) w w' := by
  have hmm := @run_makeMap Tryz.prog
  have hBw := h.map.lt
  have hu1 : Tryz.prog.underlying 170 = some (.map 3 200) := Tryz.underlying170
  have hu2 : Tryz.prog.underlying 200 = some (.map 3 56) := Tryz.underlying200
  have hz1 : ∀ w, (zeroValue 200).run Tryz.prog w = .ok (codM.enc none) w := fun w => Tryz.zeroValue200 w
  obtain ⟨u, hu⟩ : ∃ u, u = w.alloc (.cells (rfS.f v).toArray 56) := ⟨_, rfl⟩
  have h : OutAt rfS.cod B rm rows u := by rw [hu]; exact h.block (fun k hk => Below.heap_alloc _ _ k (h.lt hk))
  have hout : ∀ rows' w', OutTo rfS.cod B rm rows' u w' → OutTo rfS.cod B rm rows' w w' := fun rows' w' ho => by rw [hu] at ho; exact ho.alloc
  cases hs : sget rm a with
  | some x =>
    obtain ⟨b', rfl, h1, h2, h3⟩ := h.at_ a x hs
    obtain ⟨w', hr, hm', hg, hsz⟩ := h3.store hu2 hra hb v
    have hl := h.map.look (z0 := none) hu1 (hz1 u) ha
    rw [hs] at hl
    have Hfin : OutTo rfS.cod B rm (fun i => if i = a then sput (rows a) b v else rows i) u w' :=
      ⟨rm, h.upd hs (sput_ne _ _ _) hm' hg, only_grown hg (.inr ⟨a, hs⟩), fun k hk => .inl hk⟩
    have Hfin := hout _ _ Hfin
    rw [hu] at hl hr
    have HF := Lib.hid Hfin
    have HL := Lib.hid hl
    have HR := Lib.hid hr
    have hrg : (w.alloc (.cells (rfS.f v).toArray 56)).rangeAt w.heap.size 0 (rfS.f v) := atS rfS w v
    have HRG := Lib.hid hrg
    clear hout Hfin h h1 h2 h3 hs hm' hg hsz hn hra hl hr hmm hu hrg hBw
    have q1 : ∀ bm w, (binOp .eql 200 (.map (some bm)) (.map Option.none)).run Tryz.prog w = .ok (.bool false) w := fun bm w => by kernel_rfl
    have q2 : ∀ w, (binOp .eql 200 (.map Option.none) (.map Option.none)).run Tryz.prog w = .ok (.bool true) w := fun w => by kernel_rfl
    go_enter Tryz.func110, Tryz.ntmps110
    go_wp2_with (first
      | (at_lookup; refine wpl_look rfl _ _ _ _ rfl rfl rfl HL.out ?_; dsimp only [codM, Option.getD])
      | (at_mapUpdate; refine wpl_upd rfl _ _ _ _ rfl rfl rfl rfl HR.out ?_)
      | (refine wpl_loadS (s := rfS) (t := v) (b := w.heap.size) (k := 0) _ rfl rfl rfl rfl HRG.out ?_)
      | fail)
    exact bodyPost_end (results_none rfl _ _ _) rfl ⟨rfl, HF.out⟩
  | none =>
    have hnil := h.isNil hs
    have hl := h.map.look (z0 := none) hu1 (hz1 u) ha
    rw [hs] at hl
    -- a new map, laid in, then written
    obtain ⟨w1, hw1⟩ : ∃ w1, w1 = u.alloc (.map #[] 0) := ⟨_, rfl⟩
    obtain ⟨N, hN⟩ : ∃ N, N = u.heap.size := ⟨_, rfl⟩
    have hmade : MapAt rfS.cod N [] w1 := by rw [hw1, hN]; exact MapAt.made _ _
    have hM1 : MapAt codM B rm w1 := by rw [hw1]; exact h.map.kept (World.grownBy_alloc u _ none) (by simp)
    have hBlt := h.map.lt
    obtain ⟨w2, hr2, hm2, hg2, hs2⟩ := hM1.store hu1 hn ha (some N)
    have hl2 := hm2.look (z0 := none) hu1 (hz1 w2) ha
    rw [hM1.srt.get_put] at hl2
    simp only [if_true, Option.getD_some] at hl2
    have hmade2 := hmade.kept hg2 (by simp; omega)
    obtain ⟨w3, hr3, hm3, hg3, hs3⟩ := hmade2.store hu2 (by simp; unfold maxLen; omega) hb v
    have hm2' := hm2.kept hg3 (by simp; omega)
    have hB : Only (oblk B rm) (fun _ => False) u w2 := only_trans (by rw [hw1]; exact only_alloc _) (only_grown hg2 (.inl rfl))
    have hsz1 : w1.heap.size = u.heap.size + 1 := by rw [hw1]; simp
    have Hfin : OutTo rfS.cod B rm (fun i => if i = a then sput (rows a) b v else rows i) u w3 := by
      rw [hnil]
      refine ⟨_, h.lay hs hm2' (by omega) (by omega) (sput_ne _ _ _) hm3 (fun k hk hkB => ?_), ⟨hB.grow.trans ⟨hg3.os, hg3.tape, hg3.output, hg3.size⟩, fun k hk hk1 hk2 => ?_⟩, fun k hk => ?_⟩
      · rw [hg3.block k (by omega) (by simp; omega), hg2.block k (by omega) (by simp; omega), hw1]
        exact Below.heap_alloc _ _ k hk
      · rw [hg3.block k (by omega) (by simp; omega)]
        exact hB.block k hk hk1 hk2
      · rcases oblk_put h.map.srt hk with h' | h'
        · exact .inl h'
        · exact .inr (by omega)
    have hrg : w2.rangeAt w.heap.size 0 (rfS.f v) := by
      have hus : w.heap.size < u.heap.size := by rw [hu]; simp
      refine rangeAt_block (w := u) (by rw [hu]; exact atS rfS w v) ((hg2.block _ (by omega) (by simp; omega)).trans ?_)
      rw [hw1]; exact Below.heap_alloc _ _ _ hus
    have HRG := Lib.hid hrg
    have Hfin := hout _ _ Hfin
    rw [hu] at hl
    have HF := Lib.hid Hfin
    have HL := Lib.hid hl
    have HL2 := Lib.hid hl2
    rw [hw1, hu] at hr2
    rw [hu, World.size_alloc] at hN
    subst hN
    have HR2 := Lib.hid hr2
    have HR3 := Lib.hid hr3
    have hmk : ∀ w, (Instr.makeMap 200 Option.none).run Tryz.prog w = .ok (.map (some w.heap.size)) (w.alloc (.map #[] 0)) := fun w => run_makeMap _ w
    clear hout Hfin h hs hn hra hl hl2 hr2 hr3 hnil hmade hM1 hm2 hg2 hs2 hmade2 hm3 hg3 hs3 hm2' hB hsz1 hBlt hw1 hmm hu hrg hBw
    have q1 : ∀ bm w, (binOp .eql 200 (.map (some bm)) (.map Option.none)).run Tryz.prog w = .ok (.bool false) w := fun bm w => by kernel_rfl
    have q2 : ∀ w, (binOp .eql 200 (.map Option.none) (.map Option.none)).run Tryz.prog w = .ok (.bool true) w := fun w => by kernel_rfl
    go_enter Tryz.func110, Tryz.ntmps110
    have tok1 : True := trivial
    have tok2 : True := trivial
    go_wp2_with (first
      | (at_lookup; have _t := tok1; refine wpl_look rfl _ _ _ _ rfl rfl rfl HL.out ?_; dsimp only [codM, Option.getD]; clear tok1)
      | (at_lookup; refine wpl_look rfl _ _ _ _ rfl rfl rfl HL2.out ?_; dsimp only [codM])
      | (at_mapUpdate; have _t := tok2; refine wpl_upd rfl _ _ _ _ rfl rfl rfl rfl HR2.out ?_; clear tok2)
      | (at_mapUpdate; refine wpl_upd rfl _ _ _ _ rfl rfl rfl rfl HR3.out ?_)
      | (refine wpl_loadS (s := rfS) (t := v) (b := w.heap.size) (k := 0) _ rfl rfl rfl rfl HRG.out ?_)
      | fail)
    exact bodyPost_end (results_none rfl _ _ _) rfl ⟨rfl, HF.out⟩
end Go.Proofs.YtpkamfbjgdmmoaaGreat
end
