/-
  Tasks within a round of a loop over a function: loaded, laid, appended; agenda's All.
-/
import Derived.Test.YtbpgiahbnijidaaTsk6
import Derived.Test.YtbpgiahbnijidaaIterF
import Derived.Shelf.Abstract
import Derived.Shelf.RegionOpen
import Derived.OwnWalkIn
import Derived.Maps.OwnIn
import Derived.TacticsInMore
import Derived.LoopNIn
import Derived.LoopIn
namespace Go.Proofs.Ytbpgiahbnijidaa
open Go.RowKit Go.Shelf
attribute [local go_sem] Oper.semAt_some
set_option linter.unusedVariables false
set_option linter.unusedSimpArgs false

theorem zeroTA : ∃ zc : Array Value, ((Try.prog.info? 32).bind (·.zero)) = some (.agg zc) ∧ zc.size = 36 := by
  refine ⟨(Array.replicate 36 undef |>.mapIdx fun i _ => if i < 3 then Value.int .i64 0 else if i < 35 then .int .u8 0 else .int .i64 0), ?_, by decide +kernel⟩
  kernel_rfl
section
variable {F : Fence} {nF : Nat} {w : World} {ops : Array Oper} {rest : List Oper} {o : Oper} {a : Act} {Q : Exit → Act → World → Prop}
theorem wplIn_loadT {b k : Nat} {t : Tk} (x : Operand) (hgd : o.guard = none) (ho : o.op = .load 32 x) (hx : a.eval x = .pointer (some ⟨b, k, none⟩)) (hr : w.rangeAt b k (tc t))
    (h : wpListIn F nF Try.prog ops Q rest (a.put o.dst (.agg (tc t).toArray)) w) : wpListIn F nF Try.prog ops Q (o :: rest) a w := by
  refine wpListIn_plain hgd fun K hK => ?_
  unfold Oper.wpIn
  refine ⟨by simp [Oper.about, ho], ?_⟩
  rw [Oper.semAt_plain F _ _ (by rw [ho]; intro c hc'; cases hc')]
  unfold execOp
  simp only [ho, hx, Sem.run_bind, Sem.run_pure, run_loadAt_mid w b k 32 (tc t) _ hr Try.underlying32 rfl (by rw [tc_len]; exact sizeT), Result.andThen_ok]
  exact hK _ _ h
/-- A new task's place. -/
theorem wplIn_allocT (hgd : o.guard = none) (ho : o.op = .alloc 32)
    (h : ∀ C : Array Value, C.size = 36 → wpListIn F nF Try.prog ops Q rest (a.put o.dst (.pointer (some ⟨w.heap.size, 0, none⟩))) (w.alloc (.cells C 32))) : wpListIn F nF Try.prog ops Q (o :: rest) a w := by
  obtain ⟨zc, hz, hzs⟩ := zeroTA
  obtain ⟨i0, hi, hz0⟩ := Option.bind_eq_some_iff.1 hz
  refine wpListIn_plain hgd fun K hK => ?_
  unfold Oper.wpIn
  refine ⟨by simp [Oper.about, ho], ?_⟩
  rw [Oper.semAt_plain F _ _ (by rw [ho]; intro c hc'; cases hc')]
  have := h zc hzs
  unfold execOp
  simp [ho, Instr.alloc, zeroValue, typeInfo, hi, hz0, newVar, newRow, Value.cells, go_sem]
  exact hK _ _ this
theorem wplIn_storeT {b : Nat} {t : Tk} {C : Array Value} (x y : Operand) (hgd : o.guard = none) (ho : o.op = .store 32 x y) (hx : a.eval x = .pointer (some ⟨b, 0, none⟩)) (hy : a.eval y = .agg (tc t).toArray) (hh : w.heap[b]? = some (.cells C 32 (0, 0))) (hC : C.size = 36)
    (h : wpListIn F nF Try.prog ops Q rest (a.put o.dst undef) (w.setRow b (tc t).toArray)) : wpListIn F nF Try.prog ops Q (o :: rest) a w := by
  refine wpListIn_plain hgd fun K hK => ?_
  unfold Oper.wpIn
  refine ⟨by simp [Oper.about, ho], ?_⟩
  rw [Oper.semAt_plain F _ _ (by rw [ho]; intro c hc'; cases hc')]
  unfold execOp
  have hr : (Instr.storeAt 32 (.pointer (some ⟨b, 0, none⟩)) (.agg (tc t).toArray)).run Try.prog w = .ok () (w.setRow b (tc t).toArray) := by
    simp only [Instr.storeAt, Instr.sureAddr, Sem.run_bind, Sem.run_pure, Result.andThen_ok, run_storeVar_row w b 32 32 C (tc t).toArray hh (by rw [List.size_toArray, tc_len]; exact sizeT) (by simp [tc_len, hC]) (by rw [Array.all_eq_true_iff_forall_mem]; intro u hu; exact tc_one t u (by simpa using hu))]
  simp only [ho, hx, hy, Sem.run_bind, Sem.run_pure, hr, Result.andThen_ok]
  exact hK _ _ h
end

/-- The agenda's memory: its struct, its row. -/
structure AgA (B : Nat) (g : Nat) (v : Value) (ts : List Tk) (w : World) : Prop where
  at_ : w.heap[g]? = some (.cells #[v] 57 (0, 0))
  own : OwnT B v ts w
  ne : v.ownBlock ≠ some g
  lo : B ≤ g
theorem OwnT.block {B : Nat} {v : Value} {ts : List Tk} {w : World} (h : OwnT B v ts w) {k : Nat} (hk : v.ownBlock = some k) : B ≤ k ∧ k < w.heap.size := World.ownsRow.lt h k hk
theorem rangeAt_lt' {w : World} {b o : Nat} {t : Tk} (h : w.rangeAt b o (tc t)) : b < w.heap.size := rangeAt_lt h (fun e => by have := tc_len t; rw [e] at this; simp at this)
theorem pre_snocT {pre rest xs : List Tk} {x : Tk} (h : xs = pre ++ (x :: rest)) : (pre ++ [x]) <+: xs := ⟨rest, by rw [h]; simp⟩

set_option maxHeartbeats 4000000 in
set_option maxRecDepth 100000 in
theorem all_iter (n : Nat) (bx g : Nat) (v : Value) (ts : List Tk) (w : World) (hbx : w.cell? ⟨bx, 0, none⟩ = some (.pointer (some ⟨g, 0, none⟩))) (hg : w.heap[g]? = some (.cells #[v] 57 (0, 0))) (hr : RdT w v ts) (hl : ts.length ≤ 900)
    (G : FP) (hGb : G bx) (hGg : G g) (hGv : ∀ a n c, v = .slice (some a) n c → ts ≠ [] → G a.block) :
    IterF Try.prog n 29 #[.pointer (some ⟨bx, 0, none⟩)] (fun t : Tk => #[.agg (tc t).toArray]) ts G w := by
  intro lp B Ψ J Jx Φ0 W hgw hG hΨ hJ hJx hround h0
  have hc1 : W.cell? ⟨bx, 0, none⟩ = some (.pointer (some ⟨g, 0, none⟩)) := (World.cell?_of_block (hG bx hGb).2).trans hbx
  have hc2 : W.cell? ⟨g, 0, none⟩ = some v := by rw [World.cell?, (hG g hGg).2, hg]; rfl
  have hrW : RdT W v ts := by
    rcases hr with h | ⟨b, off, cap, rfl, h2, h3⟩
    · exact .inl h
    · refine .inr ⟨b, off, cap, rfl, h2, ?_⟩
      by_cases hc : ts = []
      · subst hc; intro j u hj; simp [Tc] at hj
      · exact rangeAt_of_block h3 (hG b (hGv _ _ _ rfl hc)).2
  obtain ⟨hs1, hs2, hs3⟩ := hJ _ _ _ h0
  refine callsIn_of_wp Try.func29 rfl trivial ?_ rfl
  simp only [Try.ntmps29, List.size_toArray, List.length_cons, List.length_nil, Nat.reduceAdd, Nat.reduceSub, Array.replicate_succ, Array.replicate_zero, List.push_toArray, List.append_toArray, List.nil_append, List.cons_append]
  have HR := Lib.hid hrW
  have HL := Lib.hid hl
  have HRD := Lib.hid hround
  have HJ := Lib.hid hJ
  have HP := Lib.hid hΨ
  have HH0 := Lib.hid h0
  have HS3 := Lib.hid hs3
  have HS1 := Lib.hid hs1
  clear hr hrW hround hJ hJx hG hΨ hbx hg hGv hl h0 hs1 hs3
  gi_wp2_with (first | (gi_at_call 30; refine (callsIn_wide.2 (clone_ts _ _ _ HR.out HL.out)).mono ?_; rintro e wc ⟨vc, rfl, hoc, hbc⟩; obtain ⟨co, ccap, rfl⟩ := hoc.reads.lenOf) | (refine ⟨trivial, ?_⟩; gi_at_call 30; refine (callsIn_wide.2 (clone_ts _ _ _ HR.out HL.out)).mono ?_; rintro e wc ⟨vc, rfl, hoc, hbc⟩; obtain ⟨co, ccap, rfl⟩ := hoc.reads.lenOf) | fail)
  have hcs := hbc.size
  have hCR := hoc.reads
  have hkeep : ∀ wr, Only Ψ Φ0 wc wr → RdT wr (.slice co ts.length ccap) ts := fun wr ho => by
    rcases hCR with h | ⟨b, off, cap', hv, h2, h3⟩
    · exact .inl h
    · refine .inr ⟨b, off, cap', hv, h2, ?_⟩
      by_cases hc : ts = []
      · subst hc; intro j u hj; simp [Tc] at hj
      · have hne : Tc ts ≠ [] := by
          intro e
          have := Tc_len ts
          rw [e] at this
          have h0 := List.length_pos_iff.2 hc
          simp at this
          omega
        have hlt := rangeAt_lt h3 hne
        have hge : W.heap.size ≤ b := by
          have hob : (Value.slice co ts.length ccap).ownBlock = some b := by rw [hv]; rfl
          exact (OwnT.block hoc hob).1
        exact rangeAt_of_block h3 (ho.block b hlt (fun h => by have := HP.out b h; omega) (fun h => by have := (HS1.out b h).2; omega))
  have HK := Lib.hid hkeep
  have HO1 := Lib.hid (Only.of_later (Ψ := Ψ) (Φ := Φ0) hbc)
  have hJc : J [] Φ0 wc := HS3.out wc (Grow.of_below hbc) (fun k hk => hbc.block k (hk.elim (fun h => by omega) (fun h => (HS1.out k h).2)))
  have HJC := Lib.hid hJc
  have hbig : (ts.length : Int) ≤ 900 := by have := HL.out; omega
  clear hCR hkeep hJc hoc hbc hc1 hc2
  gi_loopw [13] (fun r wr => ∃ (k : Nat) (Φ : FP), k ≤ ts.length ∧ r = .int .i64 k ∧ J (ts.take k) Φ wr ∧ Only Ψ Φ0 wc wr ∧ (∀ j, Φ j → Φ0 j ∨ wc.heap.size ≤ j)) (fun r wr => ts.length - (intOf r).toNat)
  case atStart => exact ⟨0, Φ0, Nat.zero_le _, rfl, HJC.out, Only.refl _ _ _, fun j h => .inl h⟩
  case round =>
    obtain ⟨k, Φ, hk, rfl, hJ2, ho2, hn2⟩ := hrel
    by_cases hlt : k < ts.length
    · have hlt' : (k : Int) < ts.length := by omega
      obtain ⟨t, ht⟩ : ∃ t, t = ts[k] := ⟨_, rfl⟩
      obtain ⟨b, off, rfl, hrng, hrb⟩ := (HK.out wr ho2).at hlt
      rw [← ht] at hrng
      have htk : ts.take (k + 1) = ts.take k ++ [t] := by rw [List.take_succ_eq_append_getElem hlt, ht]
      have hpre : (ts.take k ++ [t]) <+: ts := by rw [← htk]; exact List.take_prefix _ _
      obtain ⟨q1, q2, q3⟩ := HJ.out _ _ _ hJ2
      have hW1 : ∀ C W1, W1 = (wr.alloc (.cells C 32)).setRow wr.heap.size (tc t).toArray → Below wr.heap.size wr W1 ∧ J (ts.take k) Φ W1 ∧ W1.heap[wr.heap.size]? = some (.cells (tc t).toArray 32 (0, 0)) := fun C W1 e => by
        have hb1 : Below wr.heap.size wr W1 := by
          rw [e]
          exact ((Below.refl _ wr).alloc (Nat.le_refl _) _).trans ⟨rfl, rfl, rfl, by simp, fun k hk => setRow_other _ _ k _ (by omega)⟩
        exact ⟨hb1, q3 W1 (Grow.of_below hb1) (fun k hk => hb1.block k (hk.elim (fun h => by omega) (fun h => (q1 k h).2))), by rw [e]; exact setRow_heap _ _ _ _ _ _ (heap_alloc_new wr _)⟩
      have HW := Lib.hid hW1
      have HR2 := Lib.hid hrng
      have HT := Lib.hid htk
      have HPR := Lib.hid hpre
      have HO2 := Lib.hid ho2
      have HN2 := Lib.hid hn2
      clear hW1 hrng htk hpre q1 q2 q3 ht hJ2 ho2 hn2
      gi_wp2_with (first
        | (refine wplIn_loadT _ rfl rfl rfl HR2.out ?_)
        | (refine wplIn_allocT rfl rfl ?_; intro C hC)
        | (refine wplIn_storeT (t := t) (C := C) _ _ rfl rfl rfl rfl (heap_alloc_new wr _) hC ?_; obtain ⟨W1, hW1⟩ : ∃ W1, W1 = (wr.alloc (.cells C 32)).setRow wr.heap.size (tc t).toArray := ⟨_, rfl⟩; rw [← hW1]; obtain ⟨hb1, hJ1, hc1⟩ := HW.out C W1 hW1; obtain ⟨fn, tm, asg, bd, hy, hR⟩ := HRD.out (ts.take k) t Φ W1 HPR.out hJ1; dsimp only at hy; have HC1 := Lib.hid (rangeAt_box hc1); have HB1 := Lib.hid hb1; clear hW1 hb1 hJ1 hc1)
        | (refine wplIn_loadT _ rfl rfl rfl HC1.out ?_)
        | fail)
      refine hR.mono ?_
      rintro e W' ⟨Φ', hn', ho', (⟨rfl, hJ'⟩ | ⟨rfl, hJ'⟩)⟩
      · have ho3 : Only Ψ Φ0 wc W' := (HO2.out.trans (Φ' := Φ0) (Only.of_later HB1.out) (fun j h => .inl h)).trans ho' HN2.out
        have hn3 : ∀ j, Φ' j → Φ0 j ∨ wc.heap.size ≤ j := fun j hj => (hn' j hj).elim (HN2.out j) (fun h => .inr (by have := HO2.out.grow.size; have := HB1.out.size; omega))
        gi_wp2
        exact ⟨⟨k + 1, Φ', hlt, by go_num, by rw [HT.out]; exact hJ', ho3, hn3⟩, by simp [intOf]; omega⟩
      · have ho3 : Only Ψ Φ0 wc W' := (HO2.out.trans (Φ' := Φ0) (Only.of_later HB1.out) (fun j h => .inl h)).trans ho' HN2.out
        have hn3 : ∀ j, Φ' j → Φ0 j ∨ wc.heap.size ≤ j := fun j hj => (hn' j hj).elim (HN2.out j) (fun h => .inr (by have := HO2.out.grow.size; have := HB1.out.size; omega))
        gi_wp2
        refine bodyPost_ret (results_none rfl _ _ _) rfl ?_
        exact ⟨⟨_, rfl⟩, Φ', fun j hj => (hn3 j hj).imp id (fun h => by omega), HO1.out.trans ho3 (fun j h => .inl h), .inr ⟨_, HPR.out, hJ'⟩⟩
    · have hkn : k = ts.length := by omega
      subst hkn
      rw [List.take_length] at hJ2
      gi_wp2
      refine bodyPost_end (results_none rfl _ _ _) rfl ?_
      exact ⟨⟨_, rfl⟩, Φ, fun j hj => (hn2 j hj).imp id (fun h => by omega), HO1.out.trans ho2 (fun j h => .inl h), .inl hJ2⟩
end Go.Proofs.Ytbpgiahbnijidaa
