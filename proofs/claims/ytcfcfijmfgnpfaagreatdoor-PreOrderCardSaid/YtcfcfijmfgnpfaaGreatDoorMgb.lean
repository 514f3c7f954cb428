/-
  Joined texts.
-/
import Derived.WalkKit
import Derived.Deep.Quiet
import Derived.Deep.QuietTactic
import Derived.BigQuiet
import Derived.Deep.RegionHeld3
import Derived.Deep.DeepCutAuto
import Derived.Deep.RegionWith
import Derived.Laws.AppendOwnNone
import Derived.ProofKit
import Derived.OpenShut
import Derived.Carry
import Derived.Below
import Derived.ChangeOld
import Derived.ChangeArms
import Derived.Deep.Matrix
import Derived.Deep.MidRow
import Derived.Deep.Slices
import Derived.Test.YtcfcfijmfgnpfaaGreatDoorMga

section
namespace Go.Proofs.YtcfcfijmfgnpfaaGreatDoor
open Go.RowKit Go.BigFrame
set_option linter.unusedVariables false

section
variable {P : Program} {ops : Array Oper} {L : World → World → Prop}

/-- What is said of an operation's value: it is the same in every later world; it is this one; it meets this, in whatever world is later. -/
inductive Sp where
  | pure
  | pin (c : Value)
  | any (R : World → Value → Prop)

/-- What an operation leaves. -/
def DoesUpon (P : Program) (L : World → World → Prop) (w : World) (R : World → Value → Prop) : Result Next → Prop
  | .ok (.value u) w' => L w w' ∧ R w' u
  | .ok .skip w' => L w w' ∧ R w' undef
  | .ok (.enter f args) w' => Calls P f args w' (fun e w'' => ∃ v, e = .returned v ∧ L w w'' ∧ R w'' v)
  | .ok (.row row args) w' => Rows P row args w' (fun v w'' => L w w'' ∧ R w'' v)
  | _ => False

def Does (P : Program) (L : World → World → Prop) (o : Oper) (a : Act) (w : World) (R : World → Value → Prop) : Prop := DoesUpon P L w R ((execOp a.eval o).run P w)

theorem wp_of_does {o : Oper} {a : Act} {w : World} {R : World → Value → Prop} {K : Act → World → Prop} {Q : Exit → Act → World → Prop} (h : Does P L o a w R) (hK : ∀ v w', L w w' → R w' v → K (a.put o.dst v) w') : o.wp P a w K Q := by
  unfold Does at h
  unfold Oper.wp
  generalize (execOp a.eval o).run P w = r at *
  cases r with
  | ok n w' =>
    cases n <;> simp only [DoesUpon] at h <;> simp only [Oper.upon]
    case value u => exact hK _ _ h.1 h.2
    case skip => exact hK _ _ h.1 h.2
    case enter f args =>
      refine h.mono ?_
      rintro e w'' ⟨v, rfl, h1, h2⟩
      exact hK _ _ h1 h2
    case row row args => exact h.mono fun v w'' h2 => hK _ _ h2.1 h2.2
  | halt x w' => simp only [DoesUpon] at h

/-- Which operation's value an operand is: that of one that it waits for. -/
def srcOf (ops : Array Oper) (o : Oper) (t : Tmp) : Option Nat :=
  o.after.toList.findSome? fun e => if Region.binds .any e && ((ops[e.on]?).bind (·.dst)) == some t then some e.on else none

def waitsFor (o : Oper) (j : Nat) : Bool := o.after.any fun e => Region.binds .any e && e.on == j

/-- The region is in order: who waits, waits for what stands ahead; no slot is written twice; a slot that is written and read: one waits for the other. -/
def monoB (ops : Array Oper) (n : Nat) : Bool :=
  ops.toList.zipIdx.all fun (o, i) =>
    (o.after.all fun e => !Region.binds .any e || decide (e.on < i)) &&
    (match o.dst with | some t => decide (t < n) | none => true) &&
    ops.toList.zipIdx.all fun (x, j) =>
      match x.dst with
      | some t => (i == j || o.dst != some t) && (!(o.looksAt ops).contains t || (srcOf ops o t).isSome || i == j || waitsFor x i)
      | none => true

theorem getD_of_lt {l : Array Bool} {i : Nat} (h : i < l.size) (b c : Bool) : l.getD i b = l.getD i c := by
  simp [Array.getD, h]

theorem eval_put_same {a : Act} {t : Tmp} {v : Value} (h : t < a.tmps.size) : (a.put (some t) v).eval (.tmp t) = v := by
  simp [Act.eval, Act.put, Array.getD, h]
theorem eval_put_other {a : Act} {t u : Tmp} {v : Value} (h : u ≠ t) : (a.put (some u) v).eval (.tmp t) = a.eval (.tmp t) := by
  simp [Act.eval, Act.put, Array.getElem?_setIfInBounds_ne h]

theorem monoB_spec {n : Nat} (h : monoB ops n = true) {i : Nat} {o : Oper} (ho : ops[i]? = some o) :
    (∀ e ∈ o.after, Region.binds .any e = true → e.on < i) ∧ (∀ t, o.dst = some t → t < n) ∧
    ∀ (j : Nat) (x : Oper) (t : Tmp), ops[j]? = some x → x.dst = some t → (i = j ∨ o.dst ≠ some t) ∧ (t ∈ o.looksAt ops → (srcOf ops o t).isSome = true ∨ i = j ∨ waitsFor x i = true) := by
  unfold monoB at h
  rw [List.all_eq_true] at h
  have mem : ∀ (j : Nat) (x : Oper), ops[j]? = some x → (x, j) ∈ ops.toList.zipIdx := fun j x hx => by
    rw [List.mem_zipIdx_iff_getElem?]; simpa using hx
  have h1 := h _ (mem i o ho)
  simp only [Bool.and_eq_true, List.all_eq_true] at h1
  obtain ⟨⟨h1, h2⟩, h3⟩ := h1
  refine ⟨fun e he hb => ?_, fun t ht => ?_, fun j x t hx hxt => ?_⟩
  · have := Array.all_eq_true_iff_forall_mem.1 h1 e he
    simp only [hb, Bool.not_true, Bool.false_or, decide_eq_true_eq] at this
    exact this
  · rw [ht] at h2; simpa using h2
  · have := h3 _ (mem j x hx)
    simp only [hxt, Bool.and_eq_true, Bool.or_eq_true, beq_iff_eq, bne_iff_ne, Bool.not_eq_true', List.contains_eq_mem] at this
    refine ⟨this.1, fun hm => ?_⟩
    rcases this.2 with ((h4 | h4) | h4) | h4
    · simp [hm] at h4
    · exact .inl h4
    · exact .inr (.inl h4)
    · exact .inr (.inr h4)

theorem srcOf_spec {o : Oper} {t : Tmp} {j : Nat} (h : srcOf ops o t = some j) : ∃ e ∈ o.after, Region.binds .any e = true ∧ e.on = j ∧ ∃ x, ops[j]? = some x ∧ x.dst = some t := by
  unfold srcOf at h
  obtain ⟨e, he, h1⟩ := List.exists_of_findSome?_eq_some h
  split at h1
  · rename_i hc
    simp only [Bool.and_eq_true, beq_iff_eq] at hc
    simp only [Option.some.injEq] at h1
    subst h1
    obtain ⟨hb, hd⟩ := hc
    obtain ⟨x, hx, hxt⟩ := Option.bind_eq_some_iff.1 hd
    exact ⟨e, by simpa using he, hb, rfl, x, hx, hxt⟩
  · simp at h1

/-- No operation chooses among channels; a guard's slot is one of the frame's. -/
def planB (ops : Array Oper) (n : Nat) : Bool :=
  ops.toList.all fun o => (match o.op with | .select .. => false | _ => true) && (match o.guard with | some (g, _) => (match (ops[g]?).bind (·.dst) with | some t => decide (t < n) | none => true) | none => true)

theorem planB_spec {n : Nat} (h : planB ops n = true) {i : Nat} {o : Oper} (ho : ops[i]? = some o) : (∀ cs b, o.op ≠ .select cs b) ∧ ∀ g b t, o.guard = some (g, b) → (ops[g]?).bind (·.dst) = some t → t < n := by
  unfold planB at h
  rw [List.all_eq_true] at h
  have := h o (by simpa using Array.mem_of_getElem? ho)
  rw [Bool.and_eq_true] at this
  refine ⟨fun cs b hc => by rw [hc] at this; simp at this, fun g b t hg ht => ?_⟩
  have := this.2
  rw [hg] at this
  simp only [ht, decide_eq_true_eq] at this
  exact this

/-- Two frames alike where an operation looks. -/
theorem exec_congr {o : Oper} {a b : Act} (hsel : ∀ cs b, o.op ≠ .select cs b) (hag : ∀ t ∈ o.looksAt ops, a.eval (.tmp t) = b.eval (.tmp t)) : execOp a.eval o = execOp b.eval o :=
  execOp_congr o hsel (fun x hx => by
    cases x with
    | tmp t => exact hag t (List.mem_append_left _ (List.mem_filterMap.2 ⟨.tmp t, by simpa using hx, rfl⟩))
    | _ => rfl)
theorem wanted_congr {o : Oper} {a b : Act} {n : Nat} (ha : a.tmps.size = n) (hb : b.tmps.size = n) (hgb : ∀ g b t, o.guard = some (g, b) → (ops[g]?).bind (·.dst) = some t → t < n)
    (hag : ∀ t ∈ o.looksAt ops, a.eval (.tmp t) = b.eval (.tmp t)) : Region.wanted o (yielded ops a.tmps) = Region.wanted o (yielded ops b.tmps) := by
  unfold Region.wanted
  cases hg : o.guard with
  | none => rfl
  | some gw =>
    obtain ⟨g, want⟩ := gw
    have hy : yielded ops a.tmps g = yielded ops b.tmps g := by
      unfold yielded
      cases ht : (ops[g]?).bind (·.dst) with
      | none => rfl
      | some t =>
        have h1 := hag t (List.mem_append_right _ (by rw [hg]; simp [ht]))
        have hlt := hgb g want t hg ht
        have e1 : a.tmps[t]? = some (a.eval (.tmp t)) := by simp [Act.eval, ha, hlt]
        have e2 : b.tmps[t]? = some (b.eval (.tmp t)) := by simp [Act.eval, hb, hlt]
        simp only [Option.bind_some, e1, e2, h1]
    simp only [hy]

/-- In every later world the operation yields this. -/
def PureAt (P : Program) (ops : Array Oper) (L : World → World → Prop) (w1 : World) (a : Act) (o : Oper) (v : Value) : Prop :=
  if Region.wanted o (yielded ops a.tmps) = true then ∀ w, L w1 w → (execOp a.eval o).run P w = .ok (.value v) w else v = undef

theorem PureAt.det {w1 : World} {a : Act} {o : Oper} {u v : Value} (hr : L w1 w1) (h : PureAt P ops L w1 a o u) (k : PureAt P ops L w1 a o v) : u = v := by
  unfold PureAt at h k
  split at h
  · rename_i hw
    rw [if_pos hw] at k
    have := (h w1 hr).symm.trans (k w1 hr)
    injection this with this
    injection this
  · rename_i hw
    rw [if_neg hw] at k
    rw [h, k]

theorem PureAt.congr {w1 : World} {a b : Act} {o : Oper} {v : Value} {n : Nat} (ha : a.tmps.size = n) (hb : b.tmps.size = n) (hsel : ∀ cs b, o.op ≠ .select cs b) (hgb : ∀ g b t, o.guard = some (g, b) → (ops[g]?).bind (·.dst) = some t → t < n)
    (hag : ∀ t ∈ o.looksAt ops, a.eval (.tmp t) = b.eval (.tmp t)) (h : PureAt P ops L w1 a o v) : PureAt P ops L w1 b o v := by
  unfold PureAt at *
  rwa [← wanted_congr ha hb hgb hag, ← exec_congr hsel hag]

def snap (ops : Array Oper) (a0 a : Act) (o : Oper) (t : Tmp) : Value := match srcOf ops o t with | some _ => a.eval (.tmp t) | none => a0.eval (.tmp t)

/-- What holds of a value that an operation has made. -/
def Holds (P : Program) (ops : Array Oper) (L : World → World → Prop) (plan : List Sp) (n : Nat) (a0 : Act) (w1 : World) (i : Nat) (o : Oper) (a : Act) (w : World) (v : Value) : Prop :=
  match plan[i]? with
  | some .pure => ∀ b : Act, b.tmps.size = n → (∀ t ∈ o.looksAt ops, b.eval (.tmp t) = snap ops a0 a o t) → PureAt P ops L w1 b o v
  | some (.pin c) => v = c
  | some (.any R) => R w v
  | none => True

structure St (P : Program) (ops : Array Oper) (L : World → World → Prop) (plan : List Sp) (n : Nat) (a0 : Act) (w1 : World) (listed : Array Bool) (a : Act) (w : World) : Prop where
  later : L w1 w
  defers : a.defers = a0.defers
  size : a.tmps.size = n
  lsize : listed.size = ops.size
  shut : ∀ (j : Nat) (o : Oper), ops[j]? = some o → listed.getD j false = true → ∀ e ∈ o.after, Region.binds .any e = true → listed.getD e.on false = true
  new : ∀ (j : Nat) (o : Oper) (t : Tmp), ops[j]? = some o → listed.getD j false = true → o.dst = some t → Holds P ops L plan n a0 w1 j o a w (a.eval (.tmp t))
  old : ∀ t, (∀ (j : Nat) (o : Oper), ops[j]? = some o → listed.getD j false = true → o.dst ≠ some t) → a.eval (.tmp t) = a0.eval (.tmp t)

section
variable {plan : List Sp} {n : Nat} {a0 : Act} {w1 : World} {listed : Array Bool} {a : Act} {w : World}

theorem St.unlisted (st : St P ops L plan n a0 w1 listed a w) {i : Nat} {o : Oper} (ho : ops[i]? = some o) (hun : listed.getD i true = false) : listed.getD i false = false := by
  rw [getD_of_lt (by rw [st.lsize]; exact (Array.getElem?_eq_some_iff.1 ho).1) false true]; exact hun

theorem St.step (hstab : ∀ (i : Nat) R, plan[i]? = some (.any R) → ∀ w w' v, L w w' → R w v → R w' v) (htr : ∀ a b c, L a b → L b c → L a c) (hB : monoB ops n = true)
    (st : St P ops L plan n a0 w1 listed a w) {i : Nat} {o : Oper} (ho : ops[i]? = some o) (hun : listed.getD i true = false)
    (hall : ∀ e ∈ o.after, Region.binds .any e = true → listed.getD e.on false = true) {v : Value} {w' : World} (hL : L w w') (hR : ∀ t, o.dst = some t → Holds P ops L plan n a0 w1 i o (a.put o.dst v) w' v) :
    St P ops L plan n a0 w1 (listed.setIfInBounds i true) (a.put o.dst v) w' := by
  obtain ⟨m1, m2, m3⟩ := monoB_spec hB ho
  have hi : i < ops.size := (Array.getElem?_eq_some_iff.1 ho).1
  have hif := st.unlisted ho hun
  have gd : ∀ j, (listed.setIfInBounds i true).getD j false = true ↔ j = i ∨ listed.getD j false = true := by
    intro j
    by_cases hj : j = i
    · subst hj; simp [Array.getD, st.lsize, hi]
    · rw [Array.getD_eq_getD_getElem?, Array.getElem?_setIfInBounds_ne (Ne.symm hj), ← Array.getD_eq_getD_getElem?]; simp [hj]
  have keep : ∀ (j : Nat) (x : Oper) (t : Tmp), ops[j]? = some x → j ≠ i → x.dst = some t → (a.put o.dst v).eval (.tmp t) = a.eval (.tmp t) := by
    intro j x t hx hji ht
    have hne := (m3 j x t hx ht).1.resolve_left (Ne.symm hji)
    cases hd : o.dst with
    | none => rfl
    | some u => exact eval_put_other (fun h => hne (by rw [hd, h]))
  refine ⟨htr _ _ _ st.later hL, by cases o.dst <;> exact st.defers, ?_, by simp [st.lsize], ?_, ?_, ?_⟩
  · cases hd : o.dst with
    | none => exact st.size
    | some t => simp [Act.put, st.size]
  · intro j x hx hl e he hb
    rw [gd] at hl ⊢
    right
    rcases hl with rfl | hl
    · rw [ho] at hx; cases hx; exact hall e he hb
    · exact st.shut j x hx hl e he hb
  · intro j x t hx hl ht
    rw [gd] at hl
    by_cases hji : j = i
    · subst hji
      rw [ho] at hx; cases hx
      rw [ht, eval_put_same (by rw [st.size]; exact m2 t ht), ← ht]
      exact hR t ht
    · have hl' : listed.getD j false = true := hl.resolve_left hji
      have := st.new j x t hx hl' ht
      rw [keep j x t hx hji ht]
      unfold Holds at this ⊢
      split at this
      · rename_i hp
        refine fun b hb hag => this b hb (fun u hu => (hag u hu).trans ?_)
        unfold snap
        cases hs : srcOf ops x u with
        | none => rfl
        | some k =>
          obtain ⟨e, he, hb', rfl, y, hy, hyt⟩ := srcOf_spec hs
          have hkl := st.shut j x hx hl' e he hb'
          exact keep e.on y u hy (fun h => by rw [h, hif] at hkl; cases hkl) hyt
      · exact this
      · rename_i R hp; exact hstab j R hp _ _ _ hL this
      · trivial
  · intro t hno
    have h1 := hno i o ho ((gd i).2 (.inl rfl))
    have e : (a.put o.dst v).eval (.tmp t) = a.eval (.tmp t) := by
      cases hd : o.dst with
      | none => rfl
      | some u => exact eval_put_other (fun h => h1 (by rw [hd, h]))
    rw [e]
    exact st.old t (fun j x hx hl => hno j x hx ((gd j).2 (.inr hl)))

/-- An operand that no operation ahead makes is what it was. -/
theorem St.olds (hB : monoB ops n = true) (st : St P ops L plan n a0 w1 listed a w) {i : Nat} {o : Oper} (ho : ops[i]? = some o) (hun : listed.getD i true = false) {t : Tmp} (ht : t ∈ o.looksAt ops) (hs : srcOf ops o t = none) : a.eval (.tmp t) = a0.eval (.tmp t) := by
  obtain ⟨m1, m2, m3⟩ := monoB_spec hB ho
  have hif := st.unlisted ho hun
  refine st.old t (fun j x hx hl hxt => ?_)
  rcases (m3 j x t hx hxt).2 ht with h | h | h
  · rw [hs] at h; cases h
  · subst h; rw [hif] at hl; cases hl
  · unfold waitsFor at h
    rw [Array.any_eq_true] at h
    obtain ⟨k, hk, h⟩ := h
    simp only [Bool.and_eq_true, beq_iff_eq] at h
    have := st.shut j x hx hl x.after[k] (Array.getElem_mem hk) h.1
    rw [h.2, hif] at this
    cases this
end

theorem all_listed {n : Nat} (hB : monoB ops n = true) {listed : Array Bool} (hs : listed.size = ops.size) (hr : Region.ready .any ops listed = []) : ∀ j, j < ops.size → listed.getD j false = true := by
  intro j
  induction j using Nat.strongRecOn with
  | ind j ih =>
    intro hj
    cases hl : listed.getD j false with
    | true => rfl
    | false =>
      have ho : ops[j]? = some ops[j] := Array.getElem?_eq_getElem hj
      have : j ∈ Region.ready .any ops listed := mem_ready.2 ⟨by rw [getD_of_lt (by rw [hs]; exact hj) true false]; exact hl, _, ho, fun e he hb => ih e.on ((monoB_spec hB ho).1 e he hb) (Nat.lt_trans ((monoB_spec hB ho).1 e he hb) hj)⟩
      rw [hr] at this; cases this

theorem act_ext {a b : Act} (h1 : a.tmps.size = b.tmps.size) (h2 : a.defers = b.defers) (h3 : ∀ t, a.eval (.tmp t) = b.eval (.tmp t)) : a = b := by
  obtain ⟨x, d⟩ := a
  obtain ⟨y, d'⟩ := b
  simp only at h1 h2
  subst h2
  have : x = y := by
    refine Array.ext h1 (fun i hi hi' => ?_)
    have := h3 i
    simpa [Act.eval, Array.getD, hi, hi'] using this
  rw [this]

/-- How one operation ends. -/
def QR (L : World → World → Prop) (o : Oper) (R : World → Value → Prop) (a : Act) (w : World) (e : Exit) (a' : Act) (w' : World) : Prop :=
  e = .normal ∧ a'.defers = a.defers ∧ L w w' ∧ ∀ t, o.dst = some t → R w' (a'.eval (.tmp t))

/-- What is known of the operands that operations of the region have made. -/
def Know (ops : Array Oper) (plan : List Sp) (o : Oper) (a : Act) (w : World) : Prop :=
  ∀ t ∈ o.looksAt ops, ∀ j R, srcOf ops o t = some j → plan[j]? = some (.any R) → R w (a.eval (.tmp t))

/-- What is known of all. -/
def KnowAll (ops : Array Oper) (plan : List Sp) (a : Act) (w : World) : Prop :=
  ∀ (j : Nat) (o : Oper) (t : Tmp) R, ops[j]? = some o → o.dst = some t → plan[j]? = some (.any R) → R w (a.eval (.tmp t))

/-- The operations in the text's order, each by what is said of it. -/
def WM (P : Program) (ops : Array Oper) (L : World → World → Prop) (plan : List Sp) (w1 : World) (Q : Act → World → Prop) : List Oper → List Sp → Act → Prop
  | o :: l, .pure :: ps, a => ∃ c, PureAt P ops L w1 a o c ∧ WM P ops L plan w1 Q l ps (a.put o.dst c)
  | o :: l, .pin c :: ps, a => (∀ w, L w1 w → Know ops plan o a w → wpList P ops (QR L o (fun _ v => v = c) a w) [o] a w) ∧ WM P ops L plan w1 Q l ps (a.put o.dst c)
  | o :: l, .any R :: ps, a => (∀ w, L w1 w → Know ops plan o a w → wpList P ops (QR L o R a w) [o] a w) ∧ ∀ v, WM P ops L plan w1 Q l ps (a.put o.dst v)
  | [], [], a => ∀ w, L w1 w → KnowAll ops plan a w → Q a w
  | _, _, _ => False

theorem does_of_wpList {o : Oper} {R : World → Value → Prop} {al a : Act} {w : World} {n : Nat} (hal : al.tmps.size = n) (ha : a.tmps.size = n) (hsel : ∀ cs b, o.op ≠ .select cs b) (hgb : ∀ g b t, o.guard = some (g, b) → (ops[g]?).bind (·.dst) = some t → t < n)
    (hd : ∀ t, o.dst = some t → t < n) (hag : ∀ t ∈ o.looksAt ops, a.eval (.tmp t) = al.eval (.tmp t))
    (h : wpList P ops (QR L o R al w) [o] al w) : if Region.wanted o (yielded ops a.tmps) = true then Does P L o a w (fun w' v => ∀ t, o.dst = some t → R w' v) else L w w ∧ ∀ t, o.dst = some t → R w undef := by
  have he := exec_congr hsel hag
  have hw := wanted_congr ha hal hgb hag
  have val : ∀ v w', QR L o R al w .normal (al.put o.dst v) w' → L w w' ∧ ∀ t, o.dst = some t → R w' v := by
    rintro v w' ⟨-, -, h1, h2⟩
    refine ⟨h1, fun t hdst => ?_⟩
    have := h2 t hdst
    rwa [hdst, eval_put_same (by rw [hal]; exact hd t hdst)] at this
  rw [hw]
  unfold wpList at h
  split
  · rename_i hwt
    rw [if_pos hwt] at h
    have h : o.wp P al w (wpList P ops (QR L o R al w) []) (QR L o R al w) := by
      rcases h with h | ⟨-, a', w', h, -⟩
      · exact h
      · cases h
    unfold Oper.wp at h
    unfold Does
    rw [he]
    generalize (execOp al.eval o).run P w = r at *
    cases r with
    | ok x w' =>
      cases x <;> simp only [Oper.upon] at h <;> simp only [DoesUpon]
      case value u => exact val u w' h
      case skip => exact val undef w' h
      case defer d =>
        obtain ⟨-, h2, -⟩ := h
        have : ((({ al with defers := d :: al.defers } : Act).put o.dst undef)).defers = d :: al.defers := by cases o.dst <;> rfl
        rw [this] at h2
        have := congrArg List.length h2
        simp at this
      case enter f args =>
        refine Calls.mono h ?_
        intro e w'' h2
        cases e with
        | returned v => exact ⟨v, rfl, val v w'' h2⟩
        | panicked c => cases h2.1
        | outgrown => obtain ⟨a', w3, h3, -⟩ := h2; cases h3
      case row row args => exact Rows.mono h fun v w'' h2 => val v w'' h2
    | halt x w' => cases x <;> simp only [Oper.upon] at h <;> first | exact h.elim | (cases h.1)
  · rename_i hwt
    rw [if_neg hwt] at h
    exact val undef w h

section
variable {plan : List Sp} {n : Nat} {a0 : Act} {w1 : World} {listed : Array Bool} {a : Act} {w : World} {QF : Act → World → Prop}

/-- The text's frame: alike where what stands there has come up. -/
theorem lex_reach (hrefl : ∀ w, L w w) (hB : monoB ops n = true) (hn : a0.tmps.size = n) (st : St P ops L plan n a0 w1 listed a w) (h : WM P ops L plan w1 QF ops.toList plan a0) : ∀ k, k ≤ ops.size →
    ∃ al : Act, WM P ops L plan w1 QF (ops.toList.drop k) (plan.drop k) al ∧ al.tmps.size = n ∧ al.defers = a0.defers ∧
      (∀ (j : Nat) (x : Oper) (t : Tmp), j < k → ops[j]? = some x → x.dst = some t → listed.getD j false = true → al.eval (.tmp t) = a.eval (.tmp t)) ∧
      (∀ t, (∀ (j : Nat) (x : Oper), j < k → ops[j]? = some x → x.dst ≠ some t) → al.eval (.tmp t) = a0.eval (.tmp t)) := by
  intro k
  induction k with
  | zero => exact fun _ => ⟨a0, by simpa using h, hn, rfl, fun j _ _ hj => by omega, fun _ _ => rfl⟩
  | succ k ih =>
    intro hk
    obtain ⟨al, hw, hs, hdf, h1, h2⟩ := ih (by omega)
    have hkl : k < ops.toList.length := by simp; omega
    have ho : ops[k]? = some ops[k] := Array.getElem?_eq_getElem (by omega)
    obtain ⟨o, hoo⟩ : ∃ o, o = ops[k] := ⟨_, rfl⟩
    rw [← hoo] at ho
    obtain ⟨m1, m2, m3⟩ := monoB_spec hB ho
    have hdrop : ops.toList.drop k = o :: ops.toList.drop (k + 1) := by rw [List.drop_eq_getElem_cons hkl]; simp [hoo]
    rw [hdrop] at hw
    have ext : ∀ c, (listed.getD k false = true → ∀ t, o.dst = some t → c = a.eval (.tmp t)) → (al.put o.dst c).tmps.size = n ∧ (al.put o.dst c).defers = a0.defers ∧
        (∀ (j : Nat) (x : Oper) (t : Tmp), j < k + 1 → ops[j]? = some x → x.dst = some t → listed.getD j false = true → (al.put o.dst c).eval (.tmp t) = a.eval (.tmp t)) ∧
        (∀ t, (∀ (j : Nat) (x : Oper), j < k + 1 → ops[j]? = some x → x.dst ≠ some t) → (al.put o.dst c).eval (.tmp t) = a0.eval (.tmp t)) := by
      intro c hc
      refine ⟨?_, ?_, fun j x t hj hx hxt hl => ?_, fun t hno => ?_⟩
      · cases hd : o.dst <;> simp [Act.put, hs]
      · cases o.dst <;> exact hdf
      · by_cases hjk : j = k
        · subst hjk
          rw [ho] at hx; cases hx
          rw [hxt, eval_put_same (by rw [hs]; exact m2 t hxt)]
          exact hc hl t hxt
        · have hne := (m3 j x t hx hxt).1.resolve_left (fun h => hjk h.symm)
          have : (al.put o.dst c).eval (.tmp t) = al.eval (.tmp t) := by
            cases hd : o.dst with
            | none => rfl
            | some u => exact eval_put_other (fun h => hne (by rw [hd, h]))
          rw [this]; exact h1 j x t (by omega) hx hxt hl
      · have hne := hno k o (by omega) ho
        have : (al.put o.dst c).eval (.tmp t) = al.eval (.tmp t) := by
          cases hd : o.dst with
          | none => rfl
          | some u => exact eval_put_other (fun h => hne (by rw [hd, h]))
        rw [this]; exact h2 t (fun j x hj hx => hno j x (by omega) hx)
    cases hp : plan.drop k with
    | nil => rw [hp] at hw; exact hw.elim
    | cons s ps =>
      rw [hp] at hw
      have hpk : plan[k]? = some s := by have := congrArg List.head? hp; simpa using this
      have hps : plan.drop (k + 1) = ps := by rw [← List.drop_drop, hp]; rfl
      rw [hps]
      cases s with
      | pure =>
        obtain ⟨c, hc, hw⟩ := hw
        refine ⟨al.put o.dst c, hw, ext c (fun hl t ht => ?_)⟩
        have hH := st.new k o t ho hl ht
        unfold Holds at hH
        rw [hpk] at hH
        refine PureAt.det (hrefl w1) hc (hH al hs (fun u hu => ?_))
        unfold snap
        cases hsr : srcOf ops o u with
        | none =>
          refine h2 u (fun j x hj hx hxt => ?_)
          rcases (m3 j x u hx hxt).2 hu with h | h | h
          · rw [hsr] at h; cases h
          · omega
          · unfold waitsFor at h
            rw [Array.any_eq_true] at h
            obtain ⟨i, hi, h⟩ := h
            simp only [Bool.and_eq_true, beq_iff_eq] at h
            have := (monoB_spec hB hx).1 x.after[i] (Array.getElem_mem hi) h.1
            omega
        | some j =>
          obtain ⟨e, he, hb, rfl, x, hx, hxt⟩ := srcOf_spec hsr
          exact h1 e.on x u (m1 e he hb) hx hxt (st.shut k o ho hl e he hb)
      | pin c =>
        refine ⟨al.put o.dst c, hw.2, ext c (fun hl t ht => ?_)⟩
        have hH := st.new k o t ho hl ht
        unfold Holds at hH
        rw [hpk] at hH
        exact hH.symm
      | any R =>
        cases hd : o.dst with
        | none => exact ⟨al.put o.dst undef, by have := hw.2 undef; exact this, ext undef (fun _ t ht => by rw [hd] at ht; cases ht)⟩
        | some t => exact ⟨al.put o.dst (a.eval (.tmp t)), hw.2 _, ext _ (fun _ u hu => by rw [hd] at hu; cases hu; rfl)⟩
end

/-- What is said stays true. -/
def StabAll (L : World → World → Prop) : List Sp → Prop
  | [] => True
  | .any R :: ps => (∀ w w' v, L w w' → R w v → R w' v) ∧ StabAll L ps
  | .pure :: ps => StabAll L ps
  | .pin _ :: ps => StabAll L ps
theorem stabAll_at : ∀ (ps : List Sp), StabAll L ps → ∀ (i : Nat) R, ps[i]? = some (.any R) → ∀ w w' v, L w w' → R w v → R w' v
  | [], _, i, R, h => by simp at h
  | .any R' :: ps, h, 0, R, hi => by simp at hi; subst hi; exact h.1
  | .pure :: ps, h, 0, R, hi => by simp at hi
  | .pin _ :: ps, h, 0, R, hi => by simp at hi
  | .any R' :: ps, h, i + 1, R, hi => stabAll_at ps h.2 i R (by simpa using hi)
  | .pure :: ps, h, i + 1, R, hi => stabAll_at ps h i R (by simpa using hi)
  | .pin _ :: ps, h, i + 1, R, hi => stabAll_at ps h i R (by simpa using hi)

/-- **A region that draws its order, walked in the text's order.** -/
theorem wp_region_plan_lit {id : Nat} {Q : Exit → Act → World → Prop} {a0 : Act} {w0 : World} {l : List Oper} (n : Nat) (plan : List Sp) (hm : P.follows .mixedOrders = true) (hB : (monoB l.toArray n && planB l.toArray n) = true) (hn : a0.tmps.size = n)
    (hrefl : ∀ w, L w w) (htr : ∀ a b c, L a b → L b c → L a c) (hstab' : StabAll L plan)
    (h : WM P l.toArray L plan w0.drew (fun a w => Q .normal a w) l plan a0) : (Code.region id l.toArray true).wp P Q a0 w0 := by
  have hstab := stabAll_at plan hstab'
  obtain ⟨ops, hops⟩ : ∃ ops, ops = l.toArray := ⟨_, rfl⟩
  have hl : l = ops.toList := by rw [hops]
  rw [← hops] at hB h ⊢
  rw [hl] at h
  clear hl hops
  rw [Bool.and_eq_true] at hB
  obtain ⟨hB, hP⟩ := hB
  have fin : ∀ listed a w, St P ops L plan n a0 w0.drew listed a w → Region.ready .any ops listed = [] → Q .normal a w := by
    intro listed a w st hr
    have hl := all_listed hB st.lsize hr
    obtain ⟨al, hw, hs, hdf, h1, h2⟩ := lex_reach hrefl hB hn st h ops.size (Nat.le_refl _)
    have hlt : ∀ (i : Nat) (o : Oper), ops[i]? = some o → i < ops.size := fun i o ho => (Array.getElem?_eq_some_iff.1 ho).1
    have heq : al = a := by
      refine act_ext (hs.trans st.size.symm) (hdf.trans st.defers.symm) (fun t => ?_)
      by_cases ht : ∃ (i : Nat) (o : Oper), ops[i]? = some o ∧ o.dst = some t
      · obtain ⟨i, o, ho, hot⟩ := ht
        exact h1 i o t (hlt i o ho) ho hot (hl i (hlt i o ho))
      · rw [h2 t (fun i o _ ho hot => ht ⟨i, o, ho, hot⟩)]
        exact (st.old t (fun j o ho _ hot => ht ⟨j, o, ho, hot⟩)).symm
    rw [heq] at hw
    have e1 : ops.toList.drop ops.size = [] := by rw [List.drop_eq_nil_iff]; simp
    rw [e1] at hw
    cases hp : plan.drop ops.size with
    | cons s ps => rw [hp] at hw; exact hw.elim
    | nil =>
      rw [hp] at hw
      refine hw w st.later (fun j o t R ho hot hpl => ?_)
      have := st.new j o t ho (hl j (hlt j o ho)) hot
      unfold Holds at this
      rw [hpl] at this
      exact this
  have go : ∀ (fuel : Nat) (listed : Array Bool) (a : Act) (w : World), St P ops L plan n a0 w0.drew listed a w → (fuel = 0 → Region.ready .any ops listed = []) → (∀ i, i ∈ Region.ready .any ops listed → (listed.toList.filter (! ·)).length ≤ fuel) →
      wpAny P .any ops Q fuel listed a w := by
    intro fuel
    induction fuel with
    | zero => intro listed a w st h0 _; exact ⟨h0 rfl, fin listed a w st (h0 rfl)⟩
    | succ fuel ih =>
      intro listed a w st _ hc
      refine ⟨fun hr => fin listed a w st hr, fun i hi => ?_⟩
      obtain ⟨hun, o, ho, hall⟩ := mem_ready.1 hi
      have hil : i < listed.size := by rw [st.lsize]; exact (Array.getElem?_eq_some_iff.1 ho).1
      have hcount : ((listed.setIfInBounds i true).toList.filter (! ·)).length + 1 = (listed.toList.filter (! ·)).length := by
        have hget : listed.toList[i]? = some false := by
          have : listed.getD i true = false := hun
          simp [Array.getD, hil] at this
          simp [hil, this]
        have aux : ∀ (l : List Bool) (i : Nat), l[i]? = some false → ((l.set i true).filter (! ·)).length + 1 = (l.filter (! ·)).length := by
          intro l
          induction l with
          | nil => intro i h; simp at h
          | cons b l ih =>
            intro i h
            cases i with
            | zero => simp at h; subst h; simp
            | succ i =>
              have := ih i (by simpa using h)
              cases b <;> simp <;> omega
        rw [Array.toList_setIfInBounds]
        exact aux _ _ hget
      have hnext : ∀ v w', L w w' → (∀ t, o.dst = some t → Holds P ops L plan n a0 w0.drew i o (a.put o.dst v) w' v) → wpAny P .any ops Q fuel (listed.setIfInBounds i true) (a.put o.dst v) w' := by
        intro v w' hL hR
        have st' := st.step hstab htr hB ho hun hall hL hR
        have hle := hc i hi
        refine ih _ _ _ st' (fun h0 => ?_) (fun j hj => by omega)
        subst h0
        have hz : ((listed.setIfInBounds i true).toList.filter (! ·)).length = 0 := by omega
        cases hr : Region.ready .any ops (listed.setIfInBounds i true) with
        | nil => rfl
        | cons j l =>
          have hj : j ∈ Region.ready .any ops (listed.setIfInBounds i true) := by rw [hr]; exact List.mem_cons_self ..
          obtain ⟨hu, x, hx, -⟩ := mem_ready.1 hj
          have hjl : j < (listed.setIfInBounds i true).size := by rw [st'.lsize]; exact (Array.getElem?_eq_some_iff.1 hx).1
          have hmem : false ∈ (listed.setIfInBounds i true).toList := by
            obtain ⟨l2, hl2⟩ : ∃ l2, l2 = listed.setIfInBounds i true := ⟨_, rfl⟩
            rw [← hl2] at hu hjl ⊢
            have h2 : l2[j] = false := by simpa [Array.getD, hjl] using hu
            rw [← h2]
            exact Array.mem_toList_iff.2 (Array.getElem_mem hjl)
          have : false ∈ (listed.setIfInBounds i true).toList.filter (! ·) := List.mem_filter.2 ⟨hmem, rfl⟩
          rw [List.length_eq_zero_iff.1 hz] at this; cases this
      obtain ⟨m1, m2, m3⟩ := monoB_spec hB ho
      obtain ⟨q1, q2⟩ := planB_spec hP ho
      have hio : i < ops.size := (Array.getElem?_eq_some_iff.1 ho).1
      obtain ⟨al, hw, hs, hdf, h1, h2⟩ := lex_reach hrefl hB hn st h i (Nat.le_of_lt hio)
      have halno : ∀ t ∈ o.looksAt ops, srcOf ops o t = none → al.eval (.tmp t) = a0.eval (.tmp t) := by
        intro t ht hsr
        refine h2 t (fun j x hj hx hxt => ?_)
        rcases (m3 j x t hx hxt).2 ht with h | h | h
        · rw [hsr] at h; cases h
        · omega
        · unfold waitsFor at h
          rw [Array.any_eq_true] at h
          obtain ⟨k, hk, h⟩ := h
          simp only [Bool.and_eq_true, beq_iff_eq] at h
          have := (monoB_spec hB hx).1 x.after[k] (Array.getElem_mem hk) h.1
          omega
      have hag : ∀ t ∈ o.looksAt ops, a.eval (.tmp t) = al.eval (.tmp t) := by
        intro t ht
        cases hsr : srcOf ops o t with
        | none => rw [halno t ht hsr]; exact st.olds hB ho hun ht hsr
        | some j =>
          obtain ⟨e, he, hb, rfl, x, hx, hxt⟩ := srcOf_spec hsr
          exact (h1 e.on x t (m1 e he hb) hx hxt (hall e he hb)).symm
      have hkn : Know ops plan o al w := by
        intro t ht j R hsr hpl
        rw [← hag t ht]
        obtain ⟨e, he, hb, rfl, x, hx, hxt⟩ := srcOf_spec hsr
        have := st.new e.on x t hx (hall e he hb) hxt
        unfold Holds at this
        rw [hpl] at this
        exact this
      have hkl : i < ops.toList.length := by simpa using hio
      have hdrop : ops.toList.drop i = o :: ops.toList.drop (i + 1) := by
        rw [List.drop_eq_getElem_cons hkl]
        have := (Array.getElem?_eq_some_iff.1 ho).2
        simp [this]
      rw [hdrop] at hw
      cases hp : plan.drop i with
      | nil => rw [hp] at hw; exact hw.elim
      | cons s ps =>
        rw [hp] at hw
        have hpk : plan[i]? = some s := by have := congrArg List.head? hp; simpa using this
        unfold wpOp
        simp only [ho]
        cases s with
        | pure =>
          obtain ⟨c, hc, -⟩ := hw
          have hHc : ∀ t, o.dst = some t → Holds P ops L plan n a0 w0.drew i o (a.put o.dst c) w c := by
            intro td htd
            unfold Holds
            rw [hpk]
            intro b hb hbag
            refine PureAt.congr hs hb q1 q2 (fun t ht => ?_) hc
            rw [hbag t ht]
            unfold snap
            cases hsr : srcOf ops o t with
            | none => exact halno t ht hsr
            | some j =>
              obtain ⟨e, he, hb', rfl, x, hx, hxt⟩ := srcOf_spec hsr
              have hne := (m3 e.on x t hx hxt).1.resolve_left (fun h => by have := m1 e he hb'; omega)
              rw [← hag t ht]
              cases hd : o.dst with
              | none => rfl
              | some u => exact (eval_put_other (fun h => hne (by rw [hd, h]))).symm
          have hca := PureAt.congr hs st.size q1 q2 (fun t ht => (hag t ht).symm) hc
          unfold PureAt at hca
          split
          · rename_i hwt
            rw [if_pos hwt] at hca
            refine .inl ?_
            unfold Oper.wp
            rw [hca w st.later]
            exact hnext c w (hrefl w) hHc
          · rename_i hwt
            rw [if_neg hwt] at hca
            subst hca
            exact hnext _ w (hrefl w) hHc
        | pin c =>
          have hdo := does_of_wpList hs st.size q1 q2 m2 hag (hw.1 w st.later hkn)
          split
          · rename_i hwt
            rw [if_pos hwt] at hdo
            exact .inl (wp_of_does hdo fun v w' hL hv => hnext v w' hL fun t ht => by unfold Holds; rw [hpk]; exact hv t ht)
          · rename_i hwt
            rw [if_neg hwt] at hdo
            exact hnext _ w (hrefl w) fun t ht => by unfold Holds; rw [hpk]; exact hdo.2 t ht
        | any R =>
          have hdo := does_of_wpList hs st.size q1 q2 m2 hag (hw.1 w st.later hkn)
          split
          · rename_i hwt
            rw [if_pos hwt] at hdo
            exact .inl (wp_of_does hdo fun v w' hL hv => hnext v w' hL fun t ht => by unfold Holds; rw [hpk]; exact hv t ht)
          · rename_i hwt
            rw [if_neg hwt] at hdo
            exact hnext _ w (hrefl w) fun t ht => by unfold Holds; rw [hpk]; exact hdo.2 t ht
  refine wp_region_any hm (go ops.size _ a0 _ ⟨hrefl _, rfl, hn, by simp, ?_, ?_, fun _ _ => rfl⟩ ?_ ?_)
  · intro j o _ hl
    simp [Array.getD] at hl
  · intro j o t _ hl
    simp [Array.getD] at hl
  · intro h0
    unfold Region.ready; rw [h0]; rfl
  · intro i _
    exact Nat.le_trans (List.length_filter_le _ _) (by simp)

section
variable {plan : List Sp} {w1 : World} {QF : Act → World → Prop} {o : Oper} {l : List Oper} {ps : List Sp} {a : Act}
theorem wm_skip (hw : Region.wanted o (yielded ops a.tmps) = false) (h : ∀ K : Act → Prop, (∀ a, WM P ops L plan w1 QF l ps a → K a) → K (a.put o.dst undef)) : WM P ops L plan w1 QF (o :: l) (.pure :: ps) a :=
  ⟨undef, by unfold PureAt; rw [if_neg (by rw [hw]; exact Bool.false_ne_true)], h _ fun _ h => h⟩
theorem wm_move {x : Operand} (hw : Region.wanted o (yielded ops a.tmps) = true) (ho : o.op = .move x ∨ o.op = .assign x) (h : ∀ K : Act → Prop, (∀ a, WM P ops L plan w1 QF l ps a → K a) → K (a.put o.dst (a.eval x))) : WM P ops L plan w1 QF (o :: l) (.pure :: ps) a :=
  ⟨a.eval x, by
    unfold PureAt; rw [if_pos hw]
    intro w _
    rcases ho with ho | ho
    · exact run_move x ho w
    · exact run_assign x ho w, h _ fun _ h => h⟩
theorem wm_run (hw : Region.wanted o (yielded ops a.tmps) = true) (h : ∀ K : Act → Prop, (∀ a, WM P ops L plan w1 QF l ps a → K a) → ∃ c, (∀ w, L w1 w → (execOp a.eval o).run P w = .ok (.value c) w) ∧ K (a.put o.dst c)) :
    WM P ops L plan w1 QF (o :: l) (.pure :: ps) a := by
  obtain ⟨c, h1, h2⟩ := h _ fun _ h => h
  exact ⟨c, by unfold PureAt; rw [if_pos hw]; exact h1, h2⟩
theorem wm_pin {c : Value} (h : ∀ K : Act → Prop, (∀ a, WM P ops L plan w1 QF l ps a → K a) → (∀ w, L w1 w → Know ops plan o a w → wpList P ops (QR L o (fun _ v => v = c) a w) [o] a w) ∧ K (a.put o.dst c)) :
    WM P ops L plan w1 QF (o :: l) (.pin c :: ps) a := h _ (fun _ h => h)
theorem wm_any {Rv : World → Value → Prop} (h : ∀ K : Act → Prop, (∀ a, WM P ops L plan w1 QF l ps a → K a) → (∀ w, L w1 w → Know ops plan o a w → wpList P ops (QR L o Rv a w) [o] a w) ∧ ∀ v, K (a.put o.dst v)) :
    WM P ops L plan w1 QF (o :: l) (.any Rv :: ps) a := h _ (fun _ h => h)
theorem wm_end (h : ∀ w, L w1 w → KnowAll ops plan a w → QF a w) : WM P ops L plan w1 QF [] [] a := h

theorem Know.get {w : World} (hk : Know ops plan o a w) (t j : Nat) {Rv : World → Value → Prop} (h : ((o.looksAt ops).contains t && srcOf ops o t == some j) = true) (hp : plan[j]? = some (.any Rv)) : Rv w (a.eval (.tmp t)) := by
  simp only [Bool.and_eq_true, List.contains_eq_mem, decide_eq_true_eq, beq_iff_eq] at h
  exact hk t h.1 j Rv h.2 hp
theorem KnowAll.get {w : World} (hk : KnowAll ops plan a w) (j t : Nat) {Rv : World → Value → Prop} (h : ((ops[j]?).bind (·.dst) == some t) = true) (hp : plan[j]? = some (.any Rv)) : Rv w (a.eval (.tmp t)) := by
  rw [beq_iff_eq] at h
  obtain ⟨x, hx, hxt⟩ := Option.bind_eq_some_iff.1 h
  exact hk j x t Rv hx hxt hp

theorem qr_pin {c : Value} {t : Tmp} {m : List Value} {d : List Deferred} {w w' : World} (hd : o.dst = some t) (hv : m[t]? = some c) (hdef : d = a.defers) (hL : L w w') :
    QR L o (fun _ v => v = c) a w .normal ⟨m.toArray, d⟩ w' := ⟨rfl, hdef, hL, fun u hu => by
  rw [hd] at hu; cases hu
  simp [Act.eval, hv]⟩
theorem qr_any {Rv : World → Value → Prop} {t : Tmp} {v : Value} {m : List Value} {d : List Deferred} {w w' : World} (hd : o.dst = some t) (hv : m[t]? = some v) (hdef : d = a.defers) (hL : L w w') (hR : Rv w' v) :
    QR L o Rv a w .normal ⟨m.toArray, d⟩ w' := ⟨rfl, hdef, hL, fun u hu => by
  rw [hd] at hu; cases hu
  simpa [Act.eval, hv] using hR⟩
end

/-- Later: only new memory. -/
abbrev Later (w w' : World) : Prop := Below w.heap.size w w'
theorem Later.tr (a b c : World) (h : Later a b) (k : Later b c) : Later a c := h.trans (k.mono h.size)

end
end Go.Proofs.YtcfcfijmfgnpfaaGreatDoor
end

section
namespace Go.Proofs.YtcfcfijmfgnpfaaGreatDoor
open Go.RowKit
set_option linter.unusedVariables false
set_option linter.unusedSimpArgs false

/-- Bytes shifted and one more, whatever stands at the top. -/
theorem or_shift {V b : Nat} (hV : V < 72057594037927936) (hb : b < 256) :
    bits .or .i64 (IntKind.i64.wrap ((V : Int) * 256)) (b : Int) = IntKind.i64.wrap ((b + 256 * V : Nat) : Int) := by
  have h1 : (BitVec.ofInt 64 (IntKind.i64.wrap ((V : Int) * 256))).toNat = V * 256 := by
    rw [BitVec.toNat_ofInt, IntKind.wrap_i64]; omega
  have h2 : (BitVec.ofInt 64 (b : Int)).toNat = b := by
    rw [BitVec.ofInt_natCast, BitVec.toNat_ofNat]; exact Nat.mod_eq_of_lt (by omega)
  show IntKind.i64.wrap ((BitVec.ofInt 64 (IntKind.i64.wrap ((V : Int) * 256)) ||| BitVec.ofInt 64 (b : Int)).toNat : Int) = _
  have h3 : V * 256 ||| b = b + 256 * V := by
    have := Nat.two_pow_add_eq_or_of_lt (i := 8) (b := b) (by omega) V
    have e : 2 ^ 8 * V = V * 256 := by omega
    rw [e] at this; omega
  rw [BitVec.toNat_or, h1, h2, h3]

theorem wrap64_eq (x : Int) : wrap64 x = IntKind.i64.wrap x := by
  rw [IntKind.wrap_i64]
  unfold wrap64
  exact Eq.refl _

theorem or_shift64 {V b : Nat} (hV : V < 72057594037927936) (hb : b < 256) :
    bits .or .i64 (wrap64 ((V : Int) * 256)) (b : Int) = IntKind.i64.wrap ((b + 256 * V : Nat) : Int) := by
  rw [← or_shift hV hb, wrap64_eq]

def tabN (c : Nat) : Nat := if c % 4 = 0 then 1 else if c % 4 = 1 then 2 else if c % 4 = 2 then 4 else 0

/-- Where the bytes of a number begin, and how many they are, by the first one. -/
def headOf (c f s : Nat) : Prop := (c % 4 = 0 ∧ f = 0 ∧ s = 1) ∨ (c % 4 = 1 ∧ f = 0 ∧ s = 2) ∨ (c % 4 = 2 ∧ f = 0 ∧ s = 4) ∨ (c % 4 = 3 ∧ f = 1 ∧ s = c / 4 + 4)

theorem headOf_told {c f s : Nat} (h : headOf c f s) : f + s = toldN c := by
  unfold headOf at h; unfold toldN
  rcases h with ⟨h, rfl, rfl⟩ | ⟨h, rfl, rfl⟩ | ⟨h, rfl, rfl⟩ | ⟨h, rfl, rfl⟩
  · rw [if_pos h]
  · rw [if_neg (by omega), if_pos h]
  · rw [if_neg (by omega), if_neg (by omega), if_pos h]
  · rw [if_neg (by omega), if_neg (by omega), if_neg (by omega)]; omega
theorem headOf_f {c f s : Nat} (h : headOf c f s) : (f = 0 ∧ s ≤ 4) ∨ (f = 1 ∧ 4 ≤ s) := by
  unfold headOf at h; omega
theorem headOf_s {c f s : Nat} (hc : c < 256) (h : headOf c f s) : 1 ≤ s ∧ s ≤ 67 := by
  unfold headOf at h; omega

theorem seg_cons {l : List Nat} {t f j : Nat} (h1 : f + j < t) (h2 : t ≤ l.length) : l.getD (f + j) 0 + 256 * valL (((l.take t).drop f).drop (j + 1)) = valL (((l.take t).drop f).drop j) := by
  have hl : j < ((l.take t).drop f).length := by simp; omega
  rw [List.drop_eq_getElem_cons hl, valL]
  congr 1
  simp [show f + j < l.length by omega]

theorem litOld {w : World} {a : Addr} {v : Value} {o : Obj} (ha : a.block < w.heap.size) (h : w.cell? a = some v) : (w.alloc o).drew.cell? a = some v := by
  rw [World.cell?_drew, World.cell?_alloc_lt _ _ _ ha]; exact h

end Go.Proofs.YtcfcfijmfgnpfaaGreatDoor
end

section
namespace Go.Proofs.YtcfcfijmfgnpfaaGreatDoor
open Go.RowKit
set_option linter.unusedVariables false

theorem kN_mono {a b : Nat} (h : a ≤ b) : kN a ≤ kN b := by
  unfold kN
  split
  · split <;> (try split) <;> (try split) <;> (try split) <;> omega
  split
  · split <;> (try split) <;> (try split) <;> (try split) <;> omega
  split
  · split <;> (try split) <;> (try split) <;> (try split) <;> omega
  split
  · split <;> (try split) <;> (try split) <;> (try split) <;> omega
  · split <;> (try split) <;> (try split) <;> (try split) <;> omega
theorem sizeN_mono {a b : Nat} (h : a ≤ b) : sizeN a ≤ sizeN b := by
  have ka := kN_ge a
  have kb := kN_ge b
  have hk := kN_mono h
  unfold sizeN
  split
  · split <;> (try split) <;> (try split) <;> omega
  split
  · split <;> (try split) <;> (try split) <;> omega
  split
  · split <;> (try split) <;> (try split) <;> omega
  · split <;> (try split) <;> (try split) <;> omega
theorem heldN_mono {a b : Int} (h : a ≤ b) : heldN a ≤ heldN b := by unfold heldN; omega
theorem fit_i64 {n : Int} (h : (Lit.int .i64 n).wf = true) : -9223372036854775808 ≤ n ∧ n ≤ 9223372036854775807 := by
  simp [Lit.wf, IntKind.min, IntKind.max, IntKind.signed, IntKind.bits] at h
  omega

end Go.Proofs.YtcfcfijmfgnpfaaGreatDoor
end

section
namespace Go.Proofs.YtcfcfijmfgnpfaaGreatDoor
open Go.RowKit
set_option linter.unusedVariables false

theorem own_app {B : Nat} {v : Value} {xs l : List Nat} {w : World} (h : w.ownsRow B 5 1 v ((Bs xs).length + l.length) (Bs xs ++ Bs l)) : OwnB B v (Bs (xs ++ l)) w := by
  unfold OwnB; rw [Bs_append, List.length_append, Bs_length l]; exact h

theorem RdB.cells {w : World} {a : Addr} {cap n : Nat} {l : List Nat} (h : RdB w (.slice (some a) n cap) l) : n = l.length ∧ ∀ j u, (Bs l)[j]? = some u → w.cell? (a.add j) = some u := by
  rcases h with ⟨h1, h2⟩ | ⟨a', cap', h1, hc, hcell⟩
  · cases h1
  · injection h1 with h1 h2 h3
    injection h1 with h1
    subst h1 h2
    refine ⟨rfl, fun j u hj => ?_⟩
    simp only [Bs, List.getElem?_map] at hj
    by_cases hl : j < l.length
    · rw [List.getElem?_eq_getElem hl] at hj
      simp at hj
      rw [hcell j hl, ← hj]; simp [hl]
    · rw [List.getElem?_eq_none (by omega)] at hj; simp at hj

/-- 'append(v, u...)' of bytes. -/
theorem wp_app_B {w : World} {ops : Array Oper} {rest : List Oper} {o : Oper} {a : Act} {Q : Exit → Act → World → Prop} {s x : Operand} {B : Nat} {v u : Value} {xs l : List Nat} (hgd : o.guard = none)
    (ho : o.op = .call { callee := .builtin .append, args := #[s, x], argTypes := #[75, 75] }) (hs : a.eval s = v) (hx : a.eval x = u)
    (hown : OwnB B v (Bs xs) w) (hr : RdB w u l) (hlen : xs.length + l.length ≤ 1099511627776) (hB : B ≤ w.heap.size)
    (h : ∀ v' w', OwnB B v' (Bs (xs ++ l)) w' → Below B w w' → B ≤ w'.heap.size → w.grownBy w' v.ownBlock → wpList Tryz.prog ops Q rest (a.put o.dst v') w') : wpList Tryz.prog ops Q (o :: rest) a w := by
  obtain ⟨i0, hi, hz0, hz1, hz2⟩ := info_parts info5
  have hr' := hr
  rcases hr with ⟨rfl, rfl⟩ | ⟨ad, cap, rfl, hc, hcell⟩
  · refine wpList_append_own_none hgd s x _ ho B 5 i0 1 Tryz.underlying75 hi v _ _ hs hown hx ?_
    exact h v w (by rw [List.append_nil]; exact hown) (Below.refl _ _) hB ⟨rfl, rfl, rfl, Nat.le_refl _, fun _ _ _ => rfl⟩
  · refine wpList_append_own _ hgd s x _ ho B 5 i0 (.int .u8 0) 1 1 Tryz.underlying75 hi hz0 hz1 hz2 rfl (by decide) v _ _ hs hown ad l.length cap (Bs l) hx (by rw [Bs_length, Nat.mul_one]) hr'.cells.2 (Bs_one l) (by rw [Bs_length]; unfold maxLen; omega) (by rw [Bs_length]; omega) hB ?_
    intro v' w' h1 h2 _
    exact h v' w' (own_app h1) ((Below.refl _ _).grown h2 hB (fun k hk => (World.ownsRow.lt hown k hk).1)) (Nat.le_trans hB h2.size) h2

theorem grown_alloc {w w' : World} {o : Obj} {r : Option Nat} (h : (w.alloc o).grownBy w' r) : w.grownBy w' r :=
  ⟨h.os, h.tape, h.output, by have := h.size; simp at this; omega, fun k hk hr => (h.block k (by simp; omega) hr).trans (Below.heap_alloc w o k hk)⟩

/-- What owns some bytes reads as they do, at its own address. -/
theorem own_open {B : Nat} {v : Value} {l : List Nat} {w : World} (h : OwnB B v (Bs l) w) (hl : 0 < l.length) :
    ∃ g cap, v = .slice (some ⟨g, 0, none⟩) l.length cap ∧ B ≤ g ∧ g < w.heap.size ∧ l.length ≤ cap ∧ (∀ i, i < l.length → w.cell? ((⟨g, 0, none⟩ : Addr).add i) = some (.int .u8 ((l.getD i 0 : Nat) : Int))) ∧ (∀ i, w.frozen? ⟨g, i, none⟩ = false) := by
  have h' := h
  obtain ⟨h1, h2⟩ := h
  rcases h2 with ⟨rfl, h0⟩ | ⟨g, cap, cur, rfl, hg, hh, hc, hr⟩
  · rw [Bs_length] at h0; omega
  · have hlt := World.ownsRow.lt h' g rfl
    rw [Bs_length] at hc ⊢
    refine ⟨g, cap, rfl, hg, hlt.2, hc, fun i hi => World.ownsRow.cells h' rfl i _ (by simp [Bs, hi]), fun i => ?_⟩
    unfold World.frozen?; rw [hh]; simp

/-- The first bytes of what reads as bytes. -/
theorem rd_take {w : World} {a : Addr} {cap n : Nat} {l : List Nat} (h : RdB w (.slice (some a) n cap) l) {k : Nat} (hk : k ≤ n) : RdB w (.slice (some a) k cap) (l.take k) := by
  rcases h with ⟨h1, h2⟩ | ⟨a', cap', h1, hc, hcell⟩
  · cases h1
  · injection h1 with h1 h2 h3
    injection h1 with h1
    subst h1 h2 h3
    have hlen : (l.take k).length = k := by simp; omega
    refine .inr ⟨a, cap, by rw [hlen], by rw [hlen]; omega, fun i hi => ?_⟩
    rw [hlen] at hi
    rw [hcell i (by omega)]
    simp only [List.getD_eq_getElem?_getD, List.getElem?_take]
    rw [if_pos hi]

end Go.Proofs.YtcfcfijmfgnpfaaGreatDoor
end

section
namespace Go.Proofs.YtcfcfijmfgnpfaaGreatDoor
open Go.ChangeShapes Go.WideShapes Go.ChangeAt Go.RowKit

section
variable {H : Type} {enc : TypeId × Value → H} {P : Program}

/-- Every argument reads as it read, where below the heap's old end nothing has turned. -/
theorem trodAll_stays (hl : laidOutB P = true) {W W' : World} (hb : Below W.heap.size W W') : ∀ (ts : List TypeId) (vs : List Value) (ds : List (DataW H)) (ps : List MemPlace),
    (ts.all fun t => P.readableRec t && decide (t < P.types.size)) = true → DataW.TrodAll enc P W 0 (fun _ => true) true ts vs ds ps →
    DataW.TrodAll enc P W' 0 (fun b => decide (b < W.heap.size)) true ts vs ds ps
  | [], [], [], _, _, h => h
  | t :: ts, v :: vs, d :: ds, _, hr, h => by
    obtain ⟨p, q, h1, h2, rfl⟩ := h
    simp only [List.all_cons, Bool.and_eq_true, decide_eq_true_eq] at hr
    have lt : ∀ x ∈ p, x.block < W.heap.size := by obtain ⟨m, hm⟩ := h1; exact DataW.trod_lt m _ _ _ hm
    exact ⟨p, q, Below.trod hl hr.1.1 hr.1.2 h1 hb lt, trodAll_stays hl hb ts vs ds q hr.2 h2, rfl⟩
  | [], _ :: _, _, _, _, h => h.elim
  | [], [], _ :: _, _, _, h => h.elim
  | _ :: _, [], _, _, _, h => h.elim
  | _ :: _, _ :: _, [], _, _, h => h.elim

theorem trodAll_lengths {w : World} {base : Nat} {spare : Nat → Bool} {held : Bool} : ∀ (ts : List TypeId) (vs : List Value) (ds : List (DataW H)) (ps : List MemPlace), DataW.TrodAll enc P w base spare held ts vs ds ps → ds.length = ts.length ∧ vs.length = ts.length
  | [], [], [], _, _ => ⟨rfl, rfl⟩
  | _ :: ts, _ :: vs, _ :: ds, _, h => by
    obtain ⟨_, q, _, h2, _⟩ := h
    have := trodAll_lengths ts vs ds q h2
    exact ⟨by simp [this.1], by simp [this.2]⟩
  | [], _ :: _, _, _, h => h.elim
  | [], [], _ :: _, _, h => h.elim
  | _ :: _, [], _, _, h => h.elim
  | _ :: _, _ :: _, [], _, h => h.elim

/-- What a law's specification says. -/
def IsLaw (s : ChangeSpec) (n : Nat) : Prop := s.vars = [] ∧ ∀ (H : Type) (ds : List (DataW H)), ds.length = n → s.fn H ds = { results := [.lit (.bool true)], args := ds }

/-- The closed facts on the program that a law's row needs. -/
structure LawFacts (P : Program) (fn : Func) : Prop where
  laid : laidOutB P = true
  read : (fn.params.toList.all fun t => P.readableRec t && decide (t < P.types.size)) = true
  res : ∃ T, fn.resultTypes = #[T] ∧ P.underlying T = some .bool

theorem law_post {fn : Func} {s : ChangeSpec} (hs : IsLaw s fn.params.size) (hf : LawFacts P fn) {W W' : World} {args : Array Value} {ds gs : List (DataW H)} {before : List MemPlace}
    (hW : DataW.Whole enc P fn.params.toList s.vars false W args.toList ds gs before) (hb : Below W.heap.size W W') :
    s.post enc P fn false true false false W args (.bool true) W' := by
  have hW' := hW
  obtain ⟨p, q, hA, hV, _, _, _⟩ := hW
  rw [hs.1] at hV
  obtain ⟨rfl, _⟩ := trodVars_none hV
  have hlen : ds.length = fn.params.size := by have := (trodAll_lengths _ _ _ _ hA).1; simpa using this
  have hfn := hs.2 H ds hlen
  obtain ⟨T, hT, hB⟩ := hf.res
  refine ⟨_, _, _, [], p, [], hW', ?_, ?_, ?_, hb.frame _, fun h => by cases h⟩
  · rw [List.append_nil, hfn, hT]
    exact trodAll_mk1 (shut_bool hB _)
  · rw [List.append_nil, hfn]
    exact trodAll_stays hf.laid hb _ _ _ _ hf.read hA
  · rw [List.append_nil, hfn, hs.1]
    rfl

end
end Go.Proofs.YtcfcfijmfgnpfaaGreatDoor
end

section
namespace Go.Proofs.YtcfcfijmfgnpfaaGreatDoor
open Go.ChangeShapes Go.WideShapes Go.ChangeAt Go.RowKit

section
variable {H : Type} {enc : TypeId × Value → H} {P : Program} {w : World} {base : Nat} {spare : Nat → Bool} {held : Bool}

/-- A cell's kind: an integer's, or none: a bool. -/
abbrev Leaf := Option IntKind

def leafFits : Leaf → Value → Prop
  | some k, v => ∃ n, v = .int k n ∧ (Lit.int k n).wf = true
  | .none, v => ∃ b, v = .bool b

def Fits : List Leaf → List Value → Prop
  | [], [] => True
  | l :: ls, v :: vs => leafFits l v ∧ Fits ls vs
  | _, _ => False

theorem fits_append : ∀ {a b : List Leaf} {x y : List Value}, Fits a x → Fits b y → Fits (a ++ b) (x ++ y)
  | [], _, [], _, _, h => h
  | _ :: _, _, _ :: _, _, h, k => ⟨h.1, fits_append h.2 k⟩
  | [], _, _ :: _, _, h, _ => h.elim
  | _ :: _, _, [], _, h, _ => h.elim

theorem fits_length : ∀ {a : List Leaf} {x : List Value}, Fits a x → x.length = a.length
  | [], [], _ => rfl
  | _ :: _, _ :: _, h => by simp [fits_length h.2]
  | [], _ :: _, h => h.elim
  | _ :: _, [], h => h.elim

theorem fits_int {k : IntKind} {ls : List Leaf} {cs : List Value} (h : Fits (some k :: ls) cs) : ∃ n vs, cs = .int k n :: vs ∧ (Lit.int k n).wf = true ∧ Fits ls vs := by
  match cs, h with
  | v :: vs, h => obtain ⟨⟨n, rfl, hn⟩, hr⟩ := h; exact ⟨n, vs, rfl, hn, hr⟩
theorem fits_bool {ls : List Leaf} {cs : List Value} (h : Fits (.none :: ls) cs) : ∃ b vs, cs = .bool b :: vs ∧ Fits ls vs := by
  match cs, h with
  | v :: vs, h => obtain ⟨⟨b, rfl⟩, hr⟩ := h; exact ⟨b, vs, rfl, hr⟩
theorem fits_nil {cs : List Value} (h : Fits [] cs) : cs = [] := by
  match cs, h with
  | [], _ => rfl

/-- The fields' leaves, where each field begins where the one before it ends. -/
def fieldLeaves (P : Program) (of : TypeId → Option (List Leaf)) : Nat → List Field → Option (List Leaf)
  | _, [] => some []
  | off, f :: fs => match of f.type, fieldLeaves P of (off + P.cellsOf f.type) fs with
    | some a, some b => if f.offset = off ∧ a.length = P.cellsOf f.type then some (a ++ b) else .none
    | _, _ => .none

def repeatLeaves (a : List Leaf) : Nat → List Leaf
  | 0 => []
  | n + 1 => a ++ repeatLeaves a n

/-- A flat type's leaves. -/
def leaves (P : Program) : Nat → TypeId → Option (List Leaf)
  | 0, _ => .none
  | n + 1, t => match P.underlying t with
    | some .bool => some [.none]
    | some (.int k) => some [some k]
    | some (.struct fs) => match fieldLeaves P (leaves P n) 0 fs.toList with
      | some ls => if ls.length = P.cellsOf t then some ls else .none
      | .none => .none
    | some (.array m e) => match leaves P n e with
      | some a => if a.length = P.cellsOf e ∧ m * P.cellsOf e = P.cellsOf t then some (repeatLeaves a m) else .none
      | .none => .none
    | _ => .none

theorem fields_fit {of : TypeId → Option (List Leaf)} {cs : List Value} : ∀ (fs : List Field) (off : Nat) (ls : List Leaf), fieldLeaves P of off fs = some ls →
    (∀ f ∈ fs, ∀ a, of f.type = some a → Fits a ((cs.drop f.offset).take (P.cellsOf f.type))) → ∃ pre rest, cs.drop off = pre ++ rest ∧ Fits ls pre
  | [], off, ls, h, _ => by
    simp only [fieldLeaves, Option.some.injEq] at h; subst h
    exact ⟨[], _, rfl, trivial⟩
  | f :: fs, off, ls, h, hf => by
    simp only [fieldLeaves] at h
    split at h
    · rename_i a b ha hb
      split at h
      · rename_i hc
        simp only [Option.some.injEq] at h; subst h
        have k := hf f (List.mem_cons_self ..) a ha
        obtain ⟨pre, rest, hd, hfit⟩ := fields_fit fs _ b hb (fun g hg => hf g (List.mem_cons_of_mem _ hg))
        rw [hc.1] at k
        refine ⟨(cs.drop off).take (P.cellsOf f.type) ++ pre, rest, ?_, fits_append k hfit⟩
        rw [List.append_assoc, ← hd, ← List.drop_drop, List.take_append_drop]
      · cases h
    · cases h

theorem repeat_length (a : List Leaf) : ∀ n, (repeatLeaves a n).length = n * a.length
  | 0 => by simp [repeatLeaves]
  | n + 1 => by rw [repeatLeaves, List.length_append, repeat_length a n, Nat.succ_mul]; omega

theorem repeat_fit {a : List Leaf} {c : Nat} : ∀ (m : Nat) (cs : List Value), (∀ i, i < m → Fits a ((cs.drop (i * c)).take c)) → ∃ pre rest, cs = pre ++ rest ∧ Fits (repeatLeaves a m) pre
  | 0, cs, _ => ⟨[], cs, rfl, trivial⟩
  | m + 1, cs, h => by
    have h0 := h 0 (by omega)
    simp only [Nat.zero_mul, List.drop_zero] at h0
    obtain ⟨pre, rest, hd, hf⟩ := repeat_fit (a := a) (c := c) m (cs.drop c) (fun i hi => by
      have := h (i + 1) (by omega)
      rw [Nat.succ_mul] at this
      rwa [List.drop_drop, Nat.add_comm c])
    exact ⟨cs.take c ++ pre, rest, by rw [List.append_assoc, ← hd, List.take_append_drop], fits_append h0 hf⟩

theorem flat_fits : ∀ (n : Nat) (t : TypeId) (ls : List Leaf), leaves P n t = some ls → ∀ (fuel : Nat) (cs : List Value) (x : DataW H × List MemPlace), DataW.trod enc P w base spare held fuel t cs = some x → Fits ls cs
  | 0, t, ls, h, _, _, _, _ => by simp [leaves] at h
  | n + 1, t, ls, h, fuel, cs, x, hx => by
    simp only [leaves] at h
    split at h
    · rename_i hu
      simp only [Option.some.injEq] at h; subst h
      cases fuel with
      | zero => simp [DataW.trod] at hx
      | succ m =>
        unfold DataW.trod at hx; rw [hu] at hx
        split at hx <;> simp_all [Fits, leafFits]
    · rename_i k hu
      simp only [Option.some.injEq] at h; subst h
      cases fuel with
      | zero => simp [DataW.trod] at hx
      | succ m =>
        unfold DataW.trod at hx; rw [hu] at hx
        split at hx <;> simp_all [Fits, leafFits]
    · rename_i fs hu
      split at h
      · rename_i l hl
        split at h
        · rename_i hc
          simp only [Option.some.injEq] at h; subst h
          obtain ⟨xs, m, rfl, hxx, hlen, hxl, hf⟩ := DataW.trod_struct hu hx
          obtain ⟨pre, rest, hd, hfit⟩ := fields_fit (P := P) (cs := cs) fs.toList 0 _ hl (fun f hmem a ha => by
            obtain ⟨i, hi, hie⟩ := List.getElem_of_mem hmem
            have hi' : i < xs.length := by rw [hxl]; simpa using hi
            have e1 : fs[i]? = some f := by rw [← Array.getElem?_toList, List.getElem?_eq_getElem hi, hie]
            have e2 := hf i f e1
            rw [List.getElem?_eq_getElem hi'] at e2
            exact flat_fits n f.type a ha m _ _ e2)
          have e := fits_length hfit
          rw [List.drop_zero] at hd
          have : rest = [] := by
            have h1 := congrArg List.length hd
            rw [List.length_append] at h1
            have : rest.length = 0 := by omega
            simpa using this
          subst this
          rw [hd, List.append_nil]; exact hfit
        · cases h
      · cases h
    · rename_i m e hu
      split at h
      · rename_i a ha
        split at h
        · rename_i hc
          simp only [Option.some.injEq] at h; subst h
          obtain ⟨xs, k, rfl, _, hlen, hxl, hf⟩ := DataW.trod_array hu hx
          obtain ⟨pre, rest, hd, hfit⟩ := repeat_fit (a := a) (c := P.cellsOf e) m cs (fun i hi => by
            have hi' : i < xs.length := by omega
            have e2 := hf i hi
            rw [List.getElem?_eq_getElem hi'] at e2
            exact flat_fits n e a ha k _ _ e2)
          have e3 := fits_length hfit
          rw [repeat_length] at e3
          have : rest = [] := by
            have h1 := congrArg List.length hd
            rw [List.length_append, e3, hc.1, hc.2] at h1
            have : rest.length = 0 := by omega
            simpa using this
          subst this
          rw [hd, List.append_nil]; exact hfit
        · cases h
      · cases h
    · cases h

/-- A struct by value comes as its cells, each within its kind. -/
theorem open_flat {r : Reach} {b0 : Nat} {t : TypeId} {fs : Array Field} {ls : List Leaf} {v : Value} {d : DataW H} {p : List MemPlace} (n : Nat) (hs : P.underlying t = some (.struct fs)) (hl : leaves P n t = some ls)
    (hv : Value.okWide P w r b0 t v) (h : DataW.Trod enc P w base spare held t v d p) : ∃ cs : List Value, v = .agg cs.toArray ∧ Fits ls cs := by
  obtain ⟨cs, rfl, _⟩ := okWide_struct hs hv
  obtain ⟨fuel, hf⟩ := h
  exact ⟨cs.toList, rfl, flat_fits n t ls hl fuel _ _ (by simpa [Value.cells] using hf)⟩

end
end Go.Proofs.YtcfcfijmfgnpfaaGreatDoor
end

section
namespace Go.Proofs.YtcfcfijmfgnpfaaGreatDoor
open Go.ChangeShapes Go.WideShapes Go.ChangeAt Go.RowKit Go.Deep
set_option linter.unusedVariables false

section
variable {H : Type} {enc : TypeId × Value → H} {P : Program} {w : World} {base : Nat} {held : Bool}

theorem wf_u8 {n : Int} (h : (Lit.int .u8 n).wf = true) : 0 ≤ n ∧ n < 256 := by
  simp [Lit.wf, IntKind.min, IntKind.max, IntKind.signed, IntKind.bits] at h
  omega

theorem open_RdIM0 {t e : TypeId} {k : IntKind} {v : Value} {d : DataW H} {p : List MemPlace} (ht : P.underlying t = some (.slice e)) (he : P.underlying e = some (.int k)) (hc : P.cellsOf e = 1)
    (h : ∃ fuel, DataW.trod enc P w base (fun _ => true) held fuel t [v] = some (d, p)) : (v = .slice none 0 0) ∨
      ∃ (a : Addr) (len cap : Nat) (zs : List Int), v = .slice (some a) len cap ∧ len ≤ cap ∧ cap ≤ maxLen ∧ zs.length = cap ∧ (∀ i, i < cap → w.cell? (a.add i) = some (.int k (zs.getD i 0))) ∧ (∀ n ∈ zs, (Lit.int k n).wf = true) := by
  obtain ⟨fuel, hf⟩ := h
  rcases open_ints ht he hc hf with ⟨hcs, -⟩ | ⟨a, len, cap, zs, hcs, hb, hl, hm, hz, -, hcell, hwz⟩
  · exact .inl (by simpa using hcs)
  · simp only [if_true] at hz
    exact .inr ⟨a, len, cap, zs, by simpa using hcs, hl, hm, hz, fun i hi => hcell i (by omega), hwz⟩

theorem RdB_of {a : Addr} {len cap : Nat} {zs : List Int} (hl : len ≤ cap) (hm : cap ≤ maxLen) (hz : zs.length = cap) (hcell : ∀ i, i < cap → w.cell? (a.add i) = some (.int .u8 (zs.getD i 0))) (hw : ∀ n ∈ zs, (Lit.int .u8 n).wf = true) :
    ∃ l : List Nat, l.length = len ∧ RdB w (.slice (some a) len cap) l ∧ (∀ b ∈ l, b < 256) := by
  have hlen : ((zs.take len).map Int.toNat).length = len := by simp; omega
  refine ⟨(zs.take len).map Int.toNat, hlen, .inr ⟨a, cap, by rw [hlen], by rw [hlen]; exact hl, fun i hi => ?_⟩, ?_⟩
  · rw [hlen] at hi
    rw [hcell i (by omega)]
    have hiz : i < zs.length := by omega
    have := wf_u8 (hw zs[i] (List.getElem_mem hiz))
    have e1 : zs.getD i 0 = zs[i] := by simp [hiz]
    have e2 : ((zs.take len).map Int.toNat).getD i 0 = zs[i].toNat := by simp [hi, hiz]
    rw [e1, e2, Int.toNat_of_nonneg this.1]
  · intro b hb
    simp only [List.mem_map] at hb
    obtain ⟨z, hz', rfl⟩ := hb
    have := wf_u8 (hw z (List.mem_of_mem_take hz'))
    omega

theorem cells_slice {v : Value} {r : Reach} {b0 : Nat} {t e : TypeId} (ht : P.underlying t = some (.slice e)) (hv : Value.okWide P w r b0 t v) : v.cells.toList = [v] := by
  unfold Value.okWide at hv
  rw [ht] at hv
  simp only [Cell.okWide, Cell.ok, ht] at hv
  cases v <;> simp [Value.cells] at hv ⊢

theorem open_RdB {t e : TypeId} {v : Value} {d : DataW H} {p : List MemPlace} {r : Reach} {b0 : Nat} (ht : P.underlying t = some (.slice e)) (he : P.underlying e = some (.int .u8)) (hc : P.cellsOf e = 1)
    (hv : Value.okWide P w r b0 t v) (h : DataW.Trod enc P w base (fun _ => true) held t v d p) : ∃ l : List Nat, RdB w v l ∧ (∀ b ∈ l, b < 256) ∧ l.length ≤ maxLen := by
  obtain ⟨fuel, hf⟩ := h
  rw [cells_slice ht hv] at hf
  rcases open_RdIM0 ht he hc ⟨fuel, hf⟩ with rfl | ⟨a, len, cap, zs, rfl, hl, hm, hz, hcell, hw⟩
  · exact ⟨[], .inl ⟨rfl, rfl⟩, by simp, by simp⟩
  · obtain ⟨l, h1, h2, h3⟩ := RdB_of hl hm hz hcell hw
    exact ⟨l, h2, h3, by omega⟩

theorem open_RdIM {t e : TypeId} {v : Value} {d : DataW H} {p : List MemPlace} {r : Reach} {b0 : Nat} (ht : P.underlying t = some (.slice e)) (he : P.underlying e = some (.int .i64)) (hc : P.cellsOf e = 1)
    (hv : Value.okWide P w r b0 t v) (h : DataW.Trod enc P w base (fun _ => true) held t v d p) : ∃ l : List Int, RdIM w v l ∧ (∀ n ∈ l, (Lit.int .i64 n).wf = true) ∧ l.length ≤ maxLen := by
  obtain ⟨fuel, hf⟩ := h
  rw [cells_slice ht hv] at hf
  rcases open_RdIM0 ht he hc ⟨fuel, hf⟩ with rfl | ⟨a, len, cap, zs, rfl, hl, hm, hz, hcell, hw⟩
  · exact ⟨[], .inl ⟨rfl, rfl⟩, by simp, by simp⟩
  · have hlen : (zs.take len).length = len := by simp; omega
    refine ⟨zs.take len, .inr ⟨a, cap, by rw [hlen], by rw [hlen]; exact hl, fun i hi => ?_⟩, fun n hn => hw n (List.mem_of_mem_take hn), by rw [hlen]; omega⟩
    rw [hlen] at hi
    rw [hcell i (by omega)]
    have hiz : i < zs.length := by omega
    simp [hiz, hi]

/-- A slice of slices of bytes reads as these rows. -/
def RdBB (w : World) (v : Value) (l : List (List Nat)) : Prop :=
  (v = .slice none 0 0 ∧ l = []) ∨ ∃ a cap, v = .slice (some a) l.length cap ∧ l.length ≤ cap ∧ ∀ i, i < l.length → ∃ u, w.cell? (a.add i) = some u ∧ RdB w u (l.getD i [])

theorem RdBB.below {w w' : World} {v : Value} {l : List (List Nat)} (h : RdBB w v l) (hb : Below w.heap.size w w') : RdBB w' v l := by
  rcases h with h | ⟨a, cap, hv, hc, hcell⟩
  · exact .inl h
  · refine .inr ⟨a, cap, hv, hc, fun i hi => ?_⟩
    obtain ⟨u, h1, h2⟩ := hcell i hi
    have hl := cell_block h1
    have : (a.add i).block = a.block := by unfold Addr.add; split <;> rfl
    exact ⟨u, by rw [hb.cell (by rw [this]; exact hl)]; exact h1, h2.below hb⟩

theorem open_RdBB {t e q : TypeId} {v : Value} {d : DataW H} {p : List MemPlace} {r : Reach} {b0 : Nat} (ht : P.underlying t = some (.slice e)) (he : P.underlying e = some (.slice q)) (hq : P.underlying q = some (.int .u8)) (ce : P.cellsOf e = 1) (cq : P.cellsOf q = 1)
    (hv : Value.okWide P w r b0 t v) (h : DataW.Trod enc P w base (fun _ => true) held t v d p) : ∃ l : List (List Nat), RdBB w v l ∧ (∀ x ∈ l, (∀ b ∈ x, b < 256) ∧ x.length ≤ maxLen) ∧ l.length ≤ maxLen := by
  obtain ⟨fuel, hf⟩ := h
  rw [cells_slice ht hv] at hf
  rcases open_slice1 ht ce hf with ⟨hcs, -⟩ | ⟨a, len, cap, m, n, V, D, Pl, hcs, hb, hl, hm, hmm, -, hx⟩
  · have : v = .slice none 0 0 := by simpa using hcs
    subst this
    exact ⟨[], .inl ⟨rfl, rfl⟩, by simp, by simp⟩
  · simp only [if_true] at hmm
    have hmm' := hmm.symm
    subst hmm'
    have hvv : v = .slice (some a) len cap := by simpa using hcs
    subst hvv
    have each : ∀ i, i < cap → ∃ l : List Nat, RdB w (V i) l ∧ (∀ b ∈ l, b < 256) ∧ l.length ≤ maxLen := by
      intro i hi
      rcases open_RdIM0 he hq cq ⟨_, (hx i hi).2⟩ with h0 | ⟨a', len', cap', zs, h0, hl', hm', hz, hcell, hw⟩
      · exact ⟨[], .inl ⟨h0, rfl⟩, by simp, by simp⟩
      · obtain ⟨l, h1, h2, h3⟩ := RdB_of hl' hm' hz hcell hw
        exact ⟨l, by rw [h0]; exact h2, h3, by omega⟩
    obtain ⟨L, hL⟩ := choose_lt each
    have hlen : ((List.range len).map L).length = len := by simp
    refine ⟨(List.range len).map L, .inr ⟨a, cap, by rw [hlen], by rw [hlen]; exact hl, fun i hi => ?_⟩, fun x hx => ?_, by rw [hlen]; omega⟩
    · rw [hlen] at hi
      refine ⟨V i, (hx i (by omega)).1, ?_⟩
      have : ((List.range len).map L).getD i [] = L i := by simp [hi]
      rw [this]; exact (hL i (by omega)).1
    · simp only [List.mem_map, List.mem_range] at hx
      obtain ⟨i, hi, rfl⟩ := hx
      exact (hL i (by omega)).2
end
end Go.Proofs.YtcfcfijmfgnpfaaGreatDoor
end

section
namespace Go.Proofs.YtcfcfijmfgnpfaaGreatDoor
open Go.RowKit
set_option linter.unusedVariables false

/-- A row's bytes. -/
def rowL (p : List Nat) : List Nat := numL p.length ++ p
def rowsL : List (List Nat) → List Nat
  | [] => []
  | p :: l => rowL p ++ rowsL l
theorem rowsL_snoc (l : List (List Nat)) (p : List Nat) : rowsL (l ++ [p]) = rowsL l ++ rowL p := by
  induction l with
  | nil => simp [rowsL]
  | cons a l ih => simp [rowsL, ih]
theorem rowL_length (p : List Nat) : (rowL p).length ≤ 9 + p.length := by
  have := numL_length p.length
  simp [rowL]; omega
/-- How much rows are, each with what stands ahead of it. -/
def bulkL : List (List Nat) → Nat
  | [] => 0
  | p :: l => 9 + p.length + bulkL l
theorem rowsL_length (l : List (List Nat)) : (rowsL l).length ≤ bulkL l := by
  induction l with
  | nil => simp [rowsL]
  | cons p l ih => have := rowL_length p; simp [rowsL, bulkL]; omega
theorem bulkL_take (l : List (List Nat)) (k : Nat) : bulkL (l.take k) ≤ bulkL l := by
  induction l generalizing k with
  | nil => simp [bulkL]
  | cons p l ih =>
    cases k with
    | zero => simp [bulkL]
    | succ k => have := ih k; simp [bulkL]; omega
theorem bulkL_at (l : List (List Nat)) (k : Nat) (h : k < l.length) : 9 + (l.getD k []).length ≤ bulkL l := by
  induction l generalizing k with
  | nil => simp at h
  | cons p l ih =>
    cases k with
    | zero => simp [bulkL]
    | succ k => have := ih k (by simpa using h); simp [bulkL] at this ⊢; omega
theorem rowL_lt (p : List Nat) (h : ∀ b ∈ p, b < 256) : ∀ b ∈ rowL p, b < 256 := by
  intro b hb
  unfold rowL at hb
  rw [List.mem_append] at hb
  exact hb.elim (numL_lt _ b) (h b)

set_option maxHeartbeats 1000000 in
theorem ref_Row (v : Value) (p : List Nat) (w : World) (h : RdB w v p) (hl : p.length ≤ 1000000000) :
    Calls Tryz.prog 78 #[v] w (OwnRet w.heap.size (Bs (rowL p)) w) := by
  have HR : Hid (RdB w v p) := Lib.hid h
  obtain ⟨ao, cap, rfl⟩ := h.lenOf
  clear h
  have hheld : heldN (p.length : Int) = p.length := by unfold heldN; omega
  have HD := Lib.hid hheld
  have hnl := numL_length p.length
  clear hheld
  go_enter Tryz.func78, Tryz.ntmps78
  go_wp2_with (first | (go_at_call 96; refine (ref_Num _ _).mono ?_; rw [HD.out]; rintro e w1 ⟨v1, rfl, ho1, hb1, hs1⟩; have hr1 := Lib.hid (HR.out.below hb1)) | (at_builtin; refine wp_app_B rfl rfl rfl rfl ho1 hr1.out (by omega) hs1 ?_; intro v3 w3 ho3 hb3 hs3 hg3) | fail)
  go_ret
  exact ⟨v3, rfl, ho3, hb1.trans hb3, hs3⟩

set_option maxHeartbeats 1000000 in
theorem compact_Row (v u : Value) (b : List Nat) (l : List (List Nat)) (w : World) (hb : RdB w v b) (hl : RdBB w u l) (hbl : b.length + bulkL l ≤ 1000000000) (hm : l.length ≤ maxLen) :
    Calls Tryz.prog 85 #[v, u] w (OwnRet w.heap.size (Bs (b ++ rowsL l)) w) := by
  unfold maxLen at hm
  obtain ⟨B, hBe⟩ : ∃ B, B = w.heap.size := ⟨_, rfl⟩
  rw [← hBe]
  have HB := Lib.hid hBe
  have HLn : Hid (RdBB w u l) := Lib.hid hl
  have HBn : Hid (RdB w v b) := Lib.hid hb
  clear hBe hb
  obtain ⟨ao, cap, rfl⟩ : ∃ ao cap, u = .slice ao l.length cap := by
    rcases hl with ⟨rfl, rfl⟩ | ⟨a, cap, rfl, -⟩
    · exact ⟨_, _, rfl⟩
    · exact ⟨_, _, rfl⟩
  clear hl
  go_enter Tryz.func85, Tryz.ntmps85
  go_wp2_with (first | (go_at_call 103; refine (bytes_Clone v b w HBn.out (by omega)).mono ?_; rintro e w1 ⟨v1, rfl, ho1, hb1, hs1⟩) | fail)
  go_loopw [5, 12] (fun b' i wr => ∃ j : Nat, j ≤ l.length ∧ i = .int .i64 j ∧ OwnB B b' (Bs (b ++ rowsL (l.take j))) wr ∧ Below B w wr ∧ B ≤ wr.heap.size) (fun _ i _ => l.length - (intOf i).toNat)
  case atStart => exact ⟨0, Nat.zero_le _, rfl, by simpa [rowsL, HB.out] using ho1, by rw [HB.out]; exact hb1, by rw [HB.out]; exact hs1⟩
  case round =>
    obtain ⟨j, hj, rfl, ho, hb, hs⟩ := hrel
    by_cases hlt : j < l.length
    · obtain ⟨L, hL⟩ : ∃ L, L = b ++ rowsL (l.take j) := ⟨_, rfl⟩
      have hLl : L.length ≤ 1000000000 := by
        rw [hL, List.length_append]
        have := rowsL_length (l.take j)
        have := bulkL_take l j
        omega
      rw [← hL] at ho
      have R := (show RdBB w _ l from HLn.out)
      obtain ⟨a, cap', ha, hcap, hcell⟩ : ∃ a cap', (Value.slice ao l.length cap) = .slice (some a) l.length cap' ∧ l.length ≤ cap' ∧ ∀ i, i < l.length → ∃ u, w.cell? (a.add i) = some u ∧ RdB w u (l.getD i []) := by
        rcases R with ⟨h1, h2⟩ | h
        · rw [h2] at hlt; simp at hlt
        · exact h
      obtain ⟨x, hcj, hrj⟩ := hcell j hlt
      have halt := cell_block hcj
      obtain ⟨q, hq⟩ : ∃ q, q = l.getD j [] := ⟨_, rfl⟩
      have hql : q.length ≤ 1000000000 := by have := bulkL_at l j hlt; rw [← hq] at this; omega
      rw [← hq] at hrj
      have hnext : b ++ rowsL (l.take (j + 1)) = (L ++ numL q.length) ++ q := by
        have e : l.take (j + 1) = l.take j ++ [q] := by
          rw [List.take_succ_eq_append_getElem hlt, hq]; simp [hlt]
        rw [e, rowsL_snoc, hL, rowL]; simp
      have HN := Lib.hid hnext
      obtain ⟨u0, hc0, -⟩ := hcell 0 (by omega)
      have hsp := World.cell?_spot hc0
      clear hcell R hq hnext hL hc0
      injection ha with h1 h2 h3
      subst h1 h3
      obtain ⟨blk, off, spot⟩ := a
      have hspot : spot = none := by simpa [Addr.add] using hsp
      subst hspot
      rw [add_at] at hcj
      have hcx : wr.cell? ⟨blk, off + j, none⟩ = some x := (hb.cell (p := ⟨blk, off + j, none⟩) (by rw [HB.out]; exact halt)).trans hcj
      have HRJ := Lib.hid hrj
      obtain ⟨ao2, cap2, rfl⟩ := hrj.lenOf
      have hone : (Value.slice ao2 q.length cap2).oneCell' = true := rfl
      clear hcj halt h2 hsp hrj
      go_wp2_with fail
      refine (compact_put B u5 (Bs L) q.length _ (by omega) ho (by rw [Bs_length]; omega) hs).mono ?_
      rintro e w2 ⟨v2, rfl, ho2, hb2, hs2⟩
      rw [← Bs_append] at ho2
      have hr2 := Lib.hid (HRJ.out.below ((hb.trans hb2).mono (Nat.le_of_eq HB.out.symm)))
      have hnl := numL_length q.length
      go_wp2_with (first | (at_builtin; refine wp_app_B rfl rfl rfl rfl ho2 hr2.out (by rw [List.length_append]; omega) hs2 ?_; intro v3 w3 ho3 hb3 hs3 hg3; rw [← HN.out] at ho3) | fail)
      exact ⟨⟨j + 1, by omega, by go_num, ho3, (hb.trans hb2).trans hb3, hs3⟩, by simp [intOf]; omega⟩
    · go_wp2
      go_ret
      have : j = l.length := by omega
      subst this
      rw [List.take_length] at ho
      exact ⟨_, rfl, ho, hb, hs⟩

end Go.Proofs.YtcfcfijmfgnpfaaGreatDoor
end

section
namespace Go.Proofs.YtcfcfijmfgnpfaaGreatDoor
open Go.RowKit
set_option linter.unusedVariables false
set_option linter.unusedSimpArgs false

/-- A call. -/
inductive Cl where
  | mk (k t n : Int) (kids : List Cl)
def Cl.k : Cl → Int | .mk k _ _ _ => k
def Cl.t : Cl → Int | .mk _ t _ _ => t
def Cl.n : Cl → Int | .mk _ _ n _ => n
def Cl.kids : Cl → List Cl | .mk _ _ _ l => l
/-- What a call reads as, whose calls lie no deeper than so. -/
def RdC (w : World) : Nat → Value → Cl → Prop
  | 0, _, _ => False
  | d + 1, v, c => ∃ ao cap, v = .agg #[.int .i64 c.k, .int .i64 c.t, .int .i64 c.n, .slice ao c.kids.length cap] ∧
      ∀ i (hi : i < c.kids.length), ∃ b off vs, ao = some ⟨b, off, none⟩ ∧ b < w.heap.size ∧ w.rangeAt b (off + i * 4) vs ∧ RdC w d (.agg vs.toArray) c.kids[i]
/-- The calls of a row. -/
def RdCs (w : World) (d : Nat) (ao : Option Addr) (l : List Cl) : Prop := ∀ i (hi : i < l.length), ∃ b off vs, ao = some ⟨b, off, none⟩ ∧ b < w.heap.size ∧ w.rangeAt b (off + i * 4) vs ∧ RdC w d (.agg vs.toArray) l[i]
theorem rangeAt_keep {w w' : World} {b o : Nat} {cs : List Value} (h : w.rangeAt b o cs) (hk : w'.heap[b]? = w.heap[b]?) : w'.rangeAt b o cs := fun j u hj => (World.cell?_of_block (a := ⟨b, o + j, none⟩) hk).trans (h j u hj)
theorem RdC.below {w w' : World} (hb : Below w.heap.size w w') : ∀ {d : Nat} {v : Value} {c : Cl}, RdC w d v c → RdC w' d v c
  | 0, _, _, h => h.elim
  | d + 1, v, c, ⟨ao, cap, e, h⟩ => ⟨ao, cap, e, fun i hi => by
    obtain ⟨b, off, vs, e1, e2, e3, e4⟩ := h i hi
    exact ⟨b, off, vs, e1, Nat.lt_of_lt_of_le e2 hb.size, rangeAt_keep e3 (hb.block b e2), RdC.below hb e4⟩⟩
theorem RdCs.below {w w' : World} {d : Nat} {ao : Option Addr} {l : List Cl} (h : RdCs w d ao l) (hb : Below w.heap.size w w') : RdCs w' d ao l := fun i hi => by
  obtain ⟨b, off, vs, e1, e2, e3, e4⟩ := h i hi
  exact ⟨b, off, vs, e1, Nat.lt_of_lt_of_le e2 hb.size, rangeAt_keep e3 (hb.block b e2), RdC.below hb e4⟩
theorem RdC.open {w : World} {d : Nat} {v : Value} {c : Cl} (h : RdC w d v c) : ∃ d' ao cap, d = d' + 1 ∧ v = .agg #[.int .i64 c.k, .int .i64 c.t, .int .i64 c.n, .slice ao c.kids.length cap] ∧ RdCs w d' ao c.kids := by
  cases d with
  | zero => exact h.elim
  | succ d => obtain ⟨ao, cap, e, h⟩ := h; exact ⟨d, ao, cap, rfl, e, h⟩
/-- One that lies in a row, as its four cells. -/
theorem RdC.cells {w : World} {d : Nat} {vs : List Value} {c : Cl} (h : RdC w d (.agg vs.toArray) c) : ∃ ao cap, vs = [.int .i64 c.k, .int .i64 c.t, .int .i64 c.n, .slice ao c.kids.length cap] := by
  obtain ⟨d', ao, cap, -, e, -⟩ := h.open
  refine ⟨ao, cap, ?_⟩
  injection e with e
  simpa using congrArg Array.toList e
mutual
/-- A call's bytes. -/
def layT : Cl → List Nat
  | .mk k t n kids => numsL [k, t, n, kids.length] ++ laysT kids
def laysT : List Cl → List Nat
  | [] => []
  | c :: cs => rowL (layT c) ++ laysT cs
end
theorem laysT_rows : ∀ l : List Cl, laysT l = rowsL (l.map layT)
  | [] => by simp [laysT, rowsL]
  | c :: l => by rw [laysT, List.map_cons, rowsL, laysT_rows l]
theorem layT_eq (c : Cl) : layT c = numsL [c.k, c.t, c.n, c.kids.length] ++ laysT c.kids := by
  cases c; simp [layT, Cl.k, Cl.t, Cl.n, Cl.kids]
theorem laysT_snoc (l : List Cl) (c : Cl) : laysT (l ++ [c]) = laysT l ++ rowL (layT c) := by
  rw [laysT_rows, laysT_rows, List.map_append, List.map_cons, List.map_nil, rowsL_snoc]
theorem laysT_take (l : List Cl) {k : Nat} (h : k < l.length) : laysT (l.take (k + 1)) = laysT (l.take k) ++ rowL (layT l[k]) := by
  rw [List.take_succ_eq_append_getElem h, laysT_snoc]
theorem laysT_length (l : List Cl) (k : Nat) : (laysT (l.take k)).length ≤ (laysT l).length := by
  have e : laysT l = laysT (l.take k) ++ laysT (l.drop k) := by
    rw [laysT_rows, laysT_rows, laysT_rows]
    have : ∀ a b : List (List Nat), rowsL (a ++ b) = rowsL a ++ rowsL b := fun a b => by induction a with
      | nil => simp [rowsL]
      | cons x a ih => simp [rowsL, ih]
    rw [← this, ← List.map_append, List.take_append_drop]
  rw [e, List.length_append]; omega
theorem layT_kid {l : List Cl} {k : Nat} (h : k < l.length) : (layT l[k]).length ≤ (laysT l).length := by
  have h1 := laysT_length l (k + 1)
  rw [laysT_take l h, List.length_append] at h1
  unfold rowL at h1
  rw [List.length_append] at h1
  omega
theorem kids_len (l : List Cl) : l.length ≤ (laysT l).length := by
  induction l with
  | nil => simp
  | cons c l ih =>
    rw [laysT, List.length_append, List.length_cons]
    have : 1 ≤ (rowL (layT c)).length := by
      unfold rowL
      rw [List.length_append, numL_size]
      have := (sizeN_le (layT c).length).1
      omega
    omega
end Go.Proofs.YtcfcfijmfgnpfaaGreatDoor
end

section
namespace Go.Proofs.YtcfcfijmfgnpfaaGreatDoor
open Go.ChangeShapes Go.WideShapes Go.ChangeAt Go.RowKit Go.Deep
set_option linter.unusedVariables false

section
variable {H : Type} {enc : TypeId × Value → H} {P : Program} {w : World} {base : Nat} {held : Bool}

theorem cells_slice' {v : Value} {r : Reach} {b0 : Nat} {t e : TypeId} (ht : P.underlying t = some (.slice e)) (hv : Value.okWide P w r b0 t v) : v.cells.toList = [v] := by
  unfold Value.okWide at hv
  rw [ht] at hv
  simp only [Cell.okWide, Cell.ok, ht] at hv
  cases v <;> simp [Value.cells] at hv ⊢

theorem open_flats {t e : TypeId} {ls : List Leaf} {v : Value} {d : DataW H} {p : List MemPlace} {r : Reach} {b0 : Nat} (n : Nat) (ht : P.underlying t = some (.slice e)) (hl : leaves P n e = some ls) (hc : P.cellsOf e = ls.length)
    (hv : Value.okWide P w r b0 t v) (h : DataW.Trod enc P w base (fun _ => true) held t v d p) :
    v = .slice none 0 0 ∨ ∃ (a : Addr) (len cap : Nat) (C : Nat → List Value), v = .slice (some a) len cap ∧ len ≤ cap ∧ cap ≤ maxLen ∧ ∀ i, i < cap → Fits ls (C i) ∧ ∀ j, j < ls.length → w.cell? (a.add (i * ls.length + j)) = (C i)[j]? := by
  obtain ⟨fuel, hf⟩ := h
  rw [cells_slice' ht hv] at hf
  rcases open_slice ht hf with ⟨h0, -⟩ | ⟨a, len, cap, m, k, D, Pl, hcs, hb, hle, hm, hmm, -, hx⟩
  · exact .inl (by simpa using h0)
  · simp only [if_true] at hmm
    subst hmm
    right
    rw [hc] at hx
    obtain ⟨C, hC⟩ := choose_lt (α := List Value) (p := fun i cs => Fits ls cs ∧ ∀ j, j < ls.length → w.cell? (a.add (i * ls.length + j)) = cs[j]?) (fun i hi => by
      obtain ⟨cs', h1, h2⟩ := hx i hi
      obtain ⟨_, hlen, hcell⟩ := World.cells?_some h1
      refine ⟨cs', flat_fits n e ls hl k _ _ h2, fun j hj => ?_⟩
      have := hcell j (by omega)
      rwa [add_add] at this)
    exact ⟨a, len, m, C, by simpa using hcs, hle, hm, hC⟩
end
end Go.Proofs.YtcfcfijmfgnpfaaGreatDoor
end

section
namespace Go.Proofs.YtcfcfijmfgnpfaaGreatDoor
open Go.ChangeShapes Go.WideShapes Go.ChangeAt Go.RowKit Go.Deep
set_option linter.unusedVariables false
set_option linter.unusedSimpArgs false
set_option linter.constructorNameAsVariable false

mutual
/-- No row of calls is longer than may be. -/
def LenC : Cl → Prop
  | .mk _ _ _ l => l.length ≤ maxLen ∧ LensC l
def LensC : List Cl → Prop
  | [] => True
  | c :: l => LenC c ∧ LensC l
end
theorem lensC_iff : ∀ l : List Cl, LensC l ↔ ∀ c ∈ l, LenC c
  | [] => by simp [LensC]
  | c :: l => by rw [LensC, lensC_iff l]; simp
theorem lenC_iff (c : Cl) : LenC c ↔ c.kids.length ≤ maxLen ∧ ∀ x ∈ c.kids, LenC x := by cases c; rw [LenC, lensC_iff]; rfl
instance : Inhabited Cl := ⟨.mk 0 0 0 []⟩
theorem RdC.mono {w : World} : ∀ {d d' : Nat} {v : Value} {c : Cl}, d ≤ d' → RdC w d v c → RdC w d' v c
  | 0, _, _, _, _, h => h.elim
  | d + 1, 0, _, _, hd, _ => absurd hd (by omega)
  | d + 1, d' + 1, v, c, hd, ⟨ao, cap, e, h⟩ => ⟨ao, cap, e, fun i hi => by
    obtain ⟨b, off, vs, e1, e2, e3, e4⟩ := h i hi
    exact ⟨b, off, vs, e1, e2, e3, RdC.mono (by omega) e4⟩⟩
theorem RdCs.mono {w : World} {d d' : Nat} {ao : Option Addr} {l : List Cl} (hd : d ≤ d') (h : RdCs w d ao l) : RdCs w d' ao l := fun i hi => by
  obtain ⟨b, off, vs, e1, e2, e3, e4⟩ := h i hi
  exact ⟨b, off, vs, e1, e2, e3, RdC.mono hd e4⟩
theorem list4 {α : Type} {l : List α} (h : l.length = 4) : ∃ a b c d, l = [a, b, c, d] := by
  match l, h with
  | [a, b, c, d], _ => exact ⟨a, b, c, d, rfl⟩
theorem callFields : ∃ fs, Tryz.prog.underlying 45 = some (.struct fs) ∧ fs.size = 4 ∧ (∃ f, fs[0]? = some f ∧ f.type = 3 ∧ f.offset = 0) ∧ (∃ f, fs[1]? = some f ∧ f.type = 3 ∧ f.offset = 1) ∧ (∃ f, fs[2]? = some f ∧ f.type = 3 ∧ f.offset = 2) ∧ (∃ f, fs[3]? = some f ∧ f.type = 43 ∧ f.offset = 3) :=
  ⟨_, Tryz.underlying45, rfl, ⟨_, rfl, rfl, rfl⟩, ⟨_, rfl, rfl, rfl⟩, ⟨_, rfl, rfl, rfl⟩, ⟨_, rfl, rfl, rfl⟩⟩
theorem cellsOf_int : Tryz.prog.cellsOf 3 = 1 := by kernel_rfl
theorem cellsOf_call : Tryz.prog.cellsOf 45 = 4 := by kernel_rfl
theorem cellsOf_calls : Tryz.prog.cellsOf 43 = 1 := by kernel_rfl
section
variable {H : Type} {enc : TypeId × Value → H} {w : World} {base : Nat} {held : Bool}
theorem trod_field {fuel : Nat} {t : TypeId} {cs : List Value} {xs : List (DataW H × List MemPlace)} {i : Nat} (h : DataW.trod enc Tryz.prog w base (fun _ => true) held fuel t cs = xs[i]?) (hi : i < xs.length) : ∃ x, DataW.trod enc Tryz.prog w base (fun _ => true) held fuel t cs = some x := ⟨xs[i], by rw [h, List.getElem?_eq_getElem hi]⟩
theorem open_callsF {fuel : Nat} {v : Value} {x : DataW H × List MemPlace} (h : DataW.trod enc Tryz.prog w base (fun _ => true) held fuel 43 [v] = some x)
    (ih : ∀ n, n < fuel → ∀ (cs : List Value) x, DataW.trod enc Tryz.prog w base (fun _ => true) held n 45 cs = some x → ∃ c, RdC w n (.agg cs.toArray) c ∧ LenC c) :
    ∃ (l : List Cl) (ao : Option Addr) (cap d : Nat), v = .slice ao l.length cap ∧ d < fuel ∧ RdCs w d ao l ∧ (l.length ≤ maxLen ∧ ∀ c ∈ l, LenC c) := by
  rcases DataW.trod_slice Tryz.underlying43 h with ⟨h0, -⟩ | ⟨a, len, cap, elems, rest, n, rfl, hcs, -, -, hle, hm, hlen, hel, -, -⟩
  · injection h0 with h0 _
    refine ⟨[], none, 0, 0, h0, ?_, fun i hi => absurd hi (Nat.not_lt_zero i), Nat.zero_le _, fun c hc => absurd hc List.not_mem_nil⟩
    cases fuel with
    | zero => simp [DataW.trod] at h
    | succ n => omega
  · injection hcs with hv _
    have key : ∀ i, i < len → ∃ (vs : List Value) (c : Cl), w.cells? base (a.add (i * 4)) 4 = some vs ∧ RdC w n (.agg vs.toArray) c ∧ LenC c := fun i hi => by
      have h1 := hel i hi
      rw [cellsOf_call, List.getElem?_eq_getElem (by omega)] at h1
      obtain ⟨vs, h2, h3⟩ := Option.bind_eq_some_iff.1 h1
      obtain ⟨c, h4, h5⟩ := ih n (by omega) vs _ h3
      exact ⟨vs, c, h2, h4, h5⟩
    obtain ⟨T, hT⟩ := choose_lt (α := List Value × Cl) (p := fun i x => w.cells? base (a.add (i * 4)) 4 = some x.1 ∧ RdC w n (.agg x.1.toArray) x.2 ∧ LenC x.2) (fun i hi => by obtain ⟨vs, c, h⟩ := key i hi; exact ⟨(vs, c), h⟩)
    have hl : ((List.range len).map fun i => (T i).2).length = len := by simp
    refine ⟨(List.range len).map fun i => (T i).2, some a, cap, n, by rw [hl]; exact hv, by omega, fun i hi => ?_, by rw [hl]; omega, fun c hc => ?_⟩
    · rw [hl] at hi
      obtain ⟨h1, h2, h3⟩ := hT i hi
      obtain ⟨-, hl4, hcell⟩ := World.cells?_some h1
      obtain ⟨h0, -, -⟩ := hT 0 (by omega)
      obtain ⟨-, hl0, hcell0⟩ := World.cells?_some h0
      have g0 : w.cell? ((a.add (0 * 4)).add 0) = some ((T 0).1[0]'(by omega)) := by rw [hcell0 0 (by omega), List.getElem?_eq_getElem (by omega)]
      have hsp := World.cell?_spot g0
      obtain ⟨blk, off, spot⟩ := a
      have hspot : spot = none := by simpa [Addr.add] using hsp
      subst hspot
      have hlt := World.block_lt_of_cell? w _ g0
      rw [Addr.add_mid, Addr.add_mid] at hlt
      have e : ((List.range len).map fun i => (T i).2)[i]'(by rw [hl]; exact hi) = (T i).2 := by simp
      refine ⟨blk, off, (T i).1, rfl, hlt, fun j u hj => ?_, by rw [e]; exact h2⟩
      have hj4 : j < 4 := by have := (List.getElem?_eq_some_iff.1 hj).1; omega
      have := hcell j hj4
      rw [Addr.add_mid, Addr.add_mid] at this
      rw [this]; exact hj
    · obtain ⟨i, hi, rfl⟩ := List.mem_map.1 hc
      exact (hT i (List.mem_range.1 hi)).2.2
theorem open_callF : ∀ (fuel : Nat) (cs : List Value) (x : DataW H × List MemPlace), DataW.trod enc Tryz.prog w base (fun _ => true) held fuel 45 cs = some x → ∃ c, RdC w fuel (.agg cs.toArray) c ∧ LenC c := by
  intro fuel
  induction fuel using Nat.strongRecOn with
  | _ fuel ih =>
    intro cs x h
    obtain ⟨fs, hu, hfs, ⟨f0, g0, t0, o0⟩, ⟨f1, g1, t1, o1⟩, ⟨f2, g2, t2, o2⟩, ⟨f3, g3, t3, o3⟩⟩ := callFields
    obtain ⟨xs, n, rfl, -, hlen, hxl, hf⟩ := DataW.trod_struct hu h
    rw [cellsOf_call] at hlen
    obtain ⟨v0, v1, v2, v3, rfl⟩ := list4 hlen
    have a0 := hf 0 f0 g0
    have a1 := hf 1 f1 g1
    have a2 := hf 2 f2 g2
    have a3 := hf 3 f3 g3
    rw [t0, o0, cellsOf_int] at a0
    rw [t1, o1, cellsOf_int] at a1
    rw [t2, o2, cellsOf_int] at a2
    rw [t3, o3, cellsOf_calls] at a3
    obtain ⟨y0, b0⟩ := trod_field a0 (by omega)
    obtain ⟨y1, b1⟩ := trod_field a1 (by omega)
    obtain ⟨y2, b2⟩ := trod_field a2 (by omega)
    obtain ⟨y3, b3⟩ := trod_field a3 (by omega)
    obtain ⟨k, e0, -, -⟩ := DataW.trod_int Tryz.underlying3 b0
    obtain ⟨t, e1, -, -⟩ := DataW.trod_int Tryz.underlying3 b1
    obtain ⟨m, e2, -, -⟩ := DataW.trod_int Tryz.underlying3 b2
    obtain ⟨l, ao, cap, d, e3, hd, hr, hl1, hl2⟩ := open_callsF (v := v3) b3 (fun j hj => ih j (by omega))
    have e0' : v0 = .int .i64 k := by simpa using e0
    have e1' : v1 = .int .i64 t := by simpa using e1
    have e2' : v2 = .int .i64 m := by simpa using e2
    subst e0' e1' e2' e3
    exact ⟨.mk k t m l, ⟨ao, cap, rfl, RdCs.mono (by omega) hr⟩, (lenC_iff _).2 ⟨hl1, hl2⟩⟩
end
section
variable {H : Type} {enc : TypeId × Value → H} {P : Program} {w : World} {base : Nat} {held : Bool}
theorem trod_slice1 {t e : TypeId} {v : Value} {d : DataW H} {p : List MemPlace} {r : Reach} {b0 : Nat} (ht : P.underlying t = some (.slice e)) (hv : Value.okWide P w r b0 t v) (h : DataW.Trod enc P w base (fun _ => true) held t v d p) :
    ∃ fuel, DataW.trod enc P w base (fun _ => true) held fuel t [v] = some (d, p) := by
  obtain ⟨fuel, hf⟩ := h
  rw [cells_slice' ht hv] at hf
  exact ⟨fuel, hf⟩
theorem trod_struct1 {t : TypeId} {fs : Array Field} {v : Value} {d : DataW H} {p : List MemPlace} {r : Reach} {b0 : Nat} (ht : P.underlying t = some (.struct fs)) (hv : Value.okWide P w r b0 t v) (h : DataW.Trod enc P w base (fun _ => true) held t v d p) :
    ∃ (fuel : Nat) (cs : List Value), v = .agg cs.toArray ∧ DataW.trod enc P w base (fun _ => true) held fuel t cs = some (d, p) := by
  obtain ⟨cs, rfl, _⟩ := okWide_struct ht hv
  obtain ⟨fuel, hf⟩ := h
  exact ⟨fuel, cs.toList, rfl, by simpa [Value.cells] using hf⟩
end
theorem open_calls {H : Type} {enc : TypeId × Value → H} {w : World} {base : Nat} {held : Bool} {v : Value} {d : DataW H} {p : List MemPlace} {r : Reach} {b0 : Nat} (ht : Tryz.prog.underlying 43 = some (.slice 45)) (hv : Value.okWide Tryz.prog w r b0 43 v) (h : DataW.Trod enc Tryz.prog w base (fun _ => true) held 43 v d p) :
    ∃ (l : List Cl) (ao : Option Addr) (cap d : Nat), v = .slice ao l.length cap ∧ RdCs w d ao l ∧ (l.length ≤ maxLen ∧ ∀ c ∈ l, LenC c) := by
  have q := trod_slice1 (H := H) (enc := enc) (w := w) (base := base) (held := held) (v := v) (d := d) (p := p) (r := r) (b0 := b0) (t := 43) ht
  have q2 : ∃ fuel, DataW.trod enc Tryz.prog w base (fun _ => true) held fuel 43 [v] = some (d, p) := by
    revert hv h
    with_reducible exact q
  clear q hv h
  obtain ⟨fuel, hf⟩ := q2
  obtain ⟨l, ao, cap, d, e, -, h1, h2⟩ := open_callsF hf (fun n _ cs x hx => open_callF n cs x hx)
  exact ⟨l, ao, cap, d, e, h1, h2⟩
theorem open_call {H : Type} {enc : TypeId × Value → H} {w : World} {base : Nat} {held : Bool} {fs : Array Field} {v : Value} {d : DataW H} {p : List MemPlace} {r : Reach} {b0 : Nat} (ht : Tryz.prog.underlying 45 = some (.struct fs)) (hv : Value.okWide Tryz.prog w r b0 45 v) (h : DataW.Trod enc Tryz.prog w base (fun _ => true) held 45 v d p) :
    ∃ (c : Cl) (d : Nat), RdC w d v c ∧ LenC c := by
  have q := trod_struct1 (H := H) (enc := enc) (w := w) (base := base) (held := held) (v := v) (d := d) (p := p) (r := r) (b0 := b0) (t := 45) ht
  have q2 : ∃ (fuel : Nat) (cs : List Value), v = .agg cs.toArray ∧ DataW.trod enc Tryz.prog w base (fun _ => true) held fuel 45 cs = some (d, p) := by
    revert hv h
    with_reducible exact q
  clear q hv h
  obtain ⟨fuel, cs, rfl, hf⟩ := q2
  obtain ⟨c, h1, h2⟩ := open_callF fuel _ _ hf
  exact ⟨c, fuel, h1, h2⟩
end Go.Proofs.YtcfcfijmfgnpfaaGreatDoor
end
