/-
  Extrinsics' places; hashes and votes compared.
-/
import Derived.Test.YtbndegkgpoemnaaCod4
import Derived.Test.YtbndegkgpoemnaaCom4
import Derived.ChangeKeysEq
import Derived.Deep.MidRow
namespace Go.Proofs.Ytbndegkgpoemnaa
open Go.RowKit
set_option linter.unusedVariables false
set_option linter.unusedSimpArgs false

/-- A vote. -/
structure Vt where
  kind : Int
  aye : Bool
  level : Int
  a : Int
  n : Int
  s : Int
def voteEq (a b : Vt) : Bool := decide (a.kind = b.kind) && (decide (a.aye = b.aye) && (decide (a.level = b.level) && (decide (a.a = b.a) && (decide (a.n = b.n) && decide (a.s = b.s)))))
def vtc (v : Vt) : List Value := [.int .i64 v.kind, .bool v.aye, .int .i64 v.level, .int .i64 v.a, .int .i64 v.n, .int .i64 v.s]
/-- An extrinsic: its places, its call's as they are. -/
structure Ex where
  hd : List Int
  h7 : hd.length = 7
  sum : List Nat
  h32 : sum.length = 32
  vote : Vt
  ck : Int
  ct : Int
  cn : Int
  ca : Option Addr
  cc : Nat
  m : Nat
def callc (e : Ex) : List Value := [.int .i64 e.ck, .int .i64 e.ct, .int .i64 e.cn, .slice e.ca e.m e.cc]
def ec (e : Ex) : List Value := Is e.hd ++ (Bs e.sum ++ (vtc e.vote ++ callc e))
theorem ec_len (e : Ex) : (ec e).length = 49 := by simp [ec, Is, Bs, vtc, callc, e.h7, e.h32]
theorem eqItems_two (w : World) (d : Nat) (a b : List Nat) : ∀ is : List Nat, (∀ i ∈ is, i < a.length ∧ i < b.length) →
    (Op.eqItems (d + 1) 5 1 (Bs a).toArray (Bs b).toArray is).run Try.prog w = .ok (is.all fun i => a.getD i 0 == b.getD i 0) w
  | [], _ => by simp [Op.eqItems]
  | i :: is, h => by
    obtain ⟨ha, hb⟩ := h i (by simp)
    have he : Try.prog.plainKey 5 = true := by kernel_rfl
    have p1 := run_part_plain (P := Try.prog) w (e := 5) he (xs := (Bs a).toArray) (off := i) (v := .int .u8 (a.getD i 0 : Nat)) (by simp [Bs, ha])
    have p2 := run_part_plain (P := Try.prog) w (e := 5) he (xs := (Bs b).toArray) (off := i) (v := .int .u8 (b.getD i 0 : Nat)) (by simp [Bs, hb])
    simp only [Op.eqItems, Nat.mul_one, Sem.run_bind, p1, p2, Result.andThen_ok, run_equalIn_int w d 5 .u8 .u8 _ _ Try.underlying5]
    by_cases e : a.getD i 0 = b.getD i 0
    · have e1 : ((a.getD i 0 : Int) == (b.getD i 0 : Int)) = true := by rw [e]; simp
      have e2 : (a.getD i 0 == b.getD i 0) = true := by rw [e]; simp
      rw [e1]
      simp only [List.all_cons, e2, Bool.true_and, Bool.not_true, Bool.false_eq_true, if_false]
      exact eqItems_two w d a b is fun j hj => h j (by simp [hj])
    · have e1 : ((a.getD i 0 : Int) == (b.getD i 0 : Int)) = false := by simp only [beq_eq_false_iff_ne, ne_eq]; omega
      have e2 : (a.getD i 0 == b.getD i 0) = false := by simpa using e
      rw [e1]
      simp only [List.all_cons, e2, Bool.false_and, Bool.not_false, if_true, Sem.run_pure]
theorem all_eq32 (a b : List Nat) (ha : a.length = 32) (hb : b.length = 32) : ((List.range 32).all fun i => a.getD i 0 == b.getD i 0) = decide (a = b) := by
  by_cases e : a = b
  · subst e; simp
  · rw [decide_eq_false e]
    cases h : (List.range 32).all fun i => a.getD i 0 == b.getD i 0 with
    | false => rfl
    | true =>
      refine absurd (List.ext_getElem (by rw [ha, hb]) fun i h1 h2 => ?_) e
      rw [List.all_eq_true] at h
      have := h i (by simp; omega)
      simpa [h1, h2] using this
def eqHash (x y : Value) : Sem Value := binOp .eql 23 x y
theorem eq_hash (x y : Value) : binOp .eql 23 x y = eqHash x y := rfl
theorem run_eqHash (w : World) (a b : List Nat) (ha : a.length = 32) (hb : b.length = 32) : (eqHash (.agg (Bs a).toArray) (.agg (Bs b).toArray)).run Try.prog w = .ok (.bool (decide (a = b))) w := by
  unfold eqHash
  rw [run_eql_struct, show (10000 : Nat) = 9998 + 1 + 1 from rfl, run_equalIn_array (i := (Try.prog.info? 5).getD default) w (9998 + 1) (e := 5) (n := 32) _ _ Try.underlying23 (by kernel_rfl)]
  rw [show Try.prog.cellsOf 5 = 1 from by kernel_rfl, eqItems_two w 9998 a b _ (by simp; omega), all_eq32 a b ha hb]
  rfl
def eqVote (x y : Value) : Sem Value := binOp .eql 25 x y
theorem eq_vote (x y : Value) : binOp .eql 25 x y = eqVote x y := rfl
theorem run_eqVote (w : World) (a b : Vt) : (eqVote (.agg (vtc a).toArray) (.agg (vtc b).toArray)).run Try.prog w = .ok (.bool (voteEq a b)) w := by
  have hI : Try.prog.plainKey 3 = true := by kernel_rfl
  have hBo : Try.prog.plainKey 4 = true := by kernel_rfl
  have pI := fun (x : Vt) (o : Nat) (v : Int) (h : (vtc x).toArray[o]? = some (.int .i64 v)) => run_part_plain (P := Try.prog) w (e := 3) hI (xs := (vtc x).toArray) h
  have pB := fun (x : Vt) => run_part_plain (P := Try.prog) w (e := 4) hBo (xs := (vtc x).toArray) (off := 1) (v := .bool x.aye) (by simp [vtc])
  have q0 := fun x : Vt => pI x 0 x.kind (by simp [vtc])
  have q2 := fun x : Vt => pI x 2 x.level (by simp [vtc])
  have q3 := fun x : Vt => pI x 3 x.a (by simp [vtc])
  have q4 := fun x : Vt => pI x 4 x.n (by simp [vtc])
  have q5 := fun x : Vt => pI x 5 x.s (by simp [vtc])
  have eI := fun x y => run_equalIn_int w 9998 3 .i64 .i64 x y Try.underlying3
  have eB := fun x y => run_equalIn_bool' w 9998 4 x y Try.underlying4
  have hf : Try.prog.underlying 25 = some (.struct (Try.prog.fieldsOf 25)) := by kernel_rfl
  unfold eqVote
  rw [run_eql_struct, show (10000 : Nat) = 9999 + 1 from rfl, run_equalIn_struct w 9999 25 _ _ hf (by kernel_rfl)]
  obtain ⟨a0, a1, a2, a3, a4, a5⟩ := a
  obtain ⟨b0, b1, b2, b3, b4, b5⟩ := b
  simp [Program.fieldsOf, Try.underlying25, Op.eqFields, q0, pB, q2, q3, q4, q5, eI, eB, Result.andThen, voteEq]
  by_cases h0 : a0 = b0 <;> by_cases h1 : a1 = b1 <;> by_cases h2 : a2 = b2 <;> by_cases h3 : a3 = b3 <;> by_cases h4 : a4 = b4 <;> by_cases h5 : a5 = b5 <;> simp [h0, h1, h2, h3, h4, h5]
def extEq (a b : Ex) : Bool := decide (a.hd = b.hd) && (decide (a.sum = b.sum) && (voteEq a.vote b.vote && (decide ([a.ck, a.ct, a.cn] = [b.ck, b.ct, b.cn]) && decide (a.m = 0))))
def loadH (v : Value) : Sem Value := Instr.loadAt 23 v
theorem load_h (v : Value) : Instr.loadAt 23 v = loadH v := rfl
def loadV (v : Value) : Sem Value := Instr.loadAt 25 v
theorem load_v (v : Value) : Instr.loadAt 25 v = loadV v := rfl
def loadC (v : Value) : Sem Value := Instr.loadAt 28 v
theorem load_c (v : Value) : Instr.loadAt 28 v = loadC v := rfl
theorem rangeAt_sub {w : World} {b : Nat} {t : TypeId} {A M C L : List Value} (h : w.heap[b]? = some (.cells L.toArray t (0, 0))) (e : L = A ++ (M ++ C)) {k : Nat} (hk : A.length = k) : w.rangeAt b k M := fun j u hj => by
  have hjl := (List.getElem?_eq_some_iff.1 hj).1
  rw [World.cell?, h]
  simp only [List.getElem?_toArray, e]
  rw [List.getElem?_append_right (by omega), show k + j - A.length = j by omega, List.getElem?_append_left hjl]
  simpa using hj
section
variable {w : World} {b : Nat} {e : Ex}
theorem run_loadH (h : w.heap[b]? = some (.cells (ec e).toArray 30 (0, 0))) : (loadH (.pointer (some ⟨b, 7, none⟩))).run Try.prog w = .ok (.agg (Bs e.sum).toArray) w :=
  run_loadAt_mid w b 7 23 (Bs e.sum) _ (rangeAt_sub h rfl (by simp [Is, e.h7])) Try.underlying23 rfl (by simp only [Bs, List.length_map, e.h32]; kernel_rfl)
theorem run_loadV (h : w.heap[b]? = some (.cells (ec e).toArray 30 (0, 0))) : (loadV (.pointer (some ⟨b, 39, none⟩))).run Try.prog w = .ok (.agg (vtc e.vote).toArray) w :=
  run_loadAt_mid w b 39 25 (vtc e.vote) _ (rangeAt_sub (A := Is e.hd ++ Bs e.sum) (C := callc e) h (by simp [ec]) (by simp [Is, Bs, e.h7, e.h32])) Try.underlying25 rfl (by simp only [vtc]; kernel_rfl)
theorem run_loadC (h : w.heap[b]? = some (.cells (ec e).toArray 30 (0, 0))) : (loadC (.pointer (some ⟨b, 45, none⟩))).run Try.prog w = .ok (.agg #[.int .i64 e.ck, .int .i64 e.ct, .int .i64 e.cn, .slice e.ca e.m e.cc]) w :=
  run_loadAt_mid w b 45 28 (callc e) _ (rangeAt_sub (A := Is e.hd ++ (Bs e.sum ++ vtc e.vote)) (C := []) h (by simp [ec]) (by simp [Is, Bs, vtc, e.h7, e.h32])) Try.underlying28 rfl (by simp only [callc]; kernel_rfl)
theorem points7 (h : w.heap[b]? = some (.cells (ec e).toArray 30 (0, 0))) :
    Points w.heap.size w.heap.size [.pointer (some ⟨b, 0, none⟩), .pointer (some ⟨b, 0 + 1, none⟩), .pointer (some ⟨b, 0 + 2, none⟩), .pointer (some ⟨b, 0 + 3, none⟩), .pointer (some ⟨b, 0 + 4, none⟩), .pointer (some ⟨b, 0 + 5, none⟩), .pointer (some ⟨b, 0 + 6, none⟩)] e.hd w := by
  have hb : b < w.heap.size := (Array.getElem?_eq_some_iff.1 h).1
  have hc : ∀ i, i < 7 → w.cell? ⟨b, i, none⟩ = some (.int .i64 (e.hd.getD i 0)) := fun i hi => by
    rw [World.cell?, h]
    have hi2 : i < e.hd.length := by rw [e.h7]; exact hi
    simp [ec, Is, List.getElem?_append, hi2]
  refine ⟨by simp [e.h7], fun i v hi => ?_⟩
  match i, hi with
  | 0, hi => simp at hi; subst hi; exact ⟨b, 0, rfl, hb, by omega, hc 0 (by omega)⟩
  | 1, hi => simp at hi; subst hi; exact ⟨b, 1, rfl, hb, by omega, hc 1 (by omega)⟩
  | 2, hi => simp at hi; subst hi; exact ⟨b, 2, rfl, hb, by omega, hc 2 (by omega)⟩
  | 3, hi => simp at hi; subst hi; exact ⟨b, 3, rfl, hb, by omega, hc 3 (by omega)⟩
  | 4, hi => simp at hi; subst hi; exact ⟨b, 4, rfl, hb, by omega, hc 4 (by omega)⟩
  | 5, hi => simp at hi; subst hi; exact ⟨b, 5, rfl, hb, by omega, hc 5 (by omega)⟩
  | 6, hi => simp at hi; subst hi; exact ⟨b, 6, rfl, hb, by omega, hc 6 (by omega)⟩
  | i + 7, hi => simp at hi
end
end Go.Proofs.Ytbndegkgpoemnaa
