/-
  Joined texts.
-/
import Derived.WalkKit
import Derived.Deep.Quiet
import Derived.Deep.DeepCutAuto
import Derived.Shelf.Abstract
import Derived.Shelf.RegionOpen
import Derived.OwnWalkIn
import Derived.Maps.OwnIn
import Derived.TacticsInMore
import Derived.LoopNIn
import Derived.LoopIn
import Derived.Great.BuildSlice
import Derived.Test.YteioacpfphigjaaGreatDoorMgd

section
namespace Go.Proofs.YteioacpfphigjaaGreatDoor
open Go.RowKit Go.BigFrame
set_option linter.unusedVariables false

section
variable {P : Program} {ops : Array Oper} {L : World → World → Prop}

/-- What is said of an operation's value: it is the same in every later world; it is this one; it meets this, in whatever world is later. -/
inductive Sp where
  | pure
  | pin (c : Value)
  | any (R : World → Value → Prop)

/-- What an operation leaves. -/
def DoesUpon (P : Program) (L : World → World → Prop) (w : World) (R : World → Value → Prop) : Result Next → Prop
  | .ok (.value u) w' => L w w' ∧ R w' u
  | .ok .skip w' => L w w' ∧ R w' undef
  | .ok (.enter f args) w' => Calls P f args w' (fun e w'' => ∃ v, e = .returned v ∧ L w w'' ∧ R w'' v)
  | .ok (.row row args) w' => Rows P row args w' (fun v w'' => L w w'' ∧ R w'' v)
  | _ => False

def Does (P : Program) (L : World → World → Prop) (o : Oper) (a : Act) (w : World) (R : World → Value → Prop) : Prop := DoesUpon P L w R ((execOp a.eval o).run P w)

theorem wp_of_does {o : Oper} {a : Act} {w : World} {R : World → Value → Prop} {K : Act → World → Prop} {Q : Exit → Act → World → Prop} (h : Does P L o a w R) (hK : ∀ v w', L w w' → R w' v → K (a.put o.dst v) w') : o.wp P a w K Q := by
  unfold Does at h
  unfold Oper.wp
  generalize (execOp a.eval o).run P w = r at *
  cases r with
  | ok n w' =>
    cases n <;> simp only [DoesUpon] at h <;> simp only [Oper.upon]
    case value u => exact hK _ _ h.1 h.2
    case skip => exact hK _ _ h.1 h.2
    case enter f args =>
      refine h.mono ?_
      rintro e w'' ⟨v, rfl, h1, h2⟩
      exact hK _ _ h1 h2
    case row row args => exact h.mono fun v w'' h2 => hK _ _ h2.1 h2.2
  | halt x w' => simp only [DoesUpon] at h

/-- Which operation's value an operand is: that of one that it waits for. -/
def srcOf (ops : Array Oper) (o : Oper) (t : Tmp) : Option Nat :=
  o.after.toList.findSome? fun e => if Region.binds .any e && ((ops[e.on]?).bind (·.dst)) == some t then some e.on else none

def waitsFor (o : Oper) (j : Nat) : Bool := o.after.any fun e => Region.binds .any e && e.on == j

/-- The region is in order: who waits, waits for what stands ahead; no slot is written twice; a slot that is written and read: one waits for the other. -/
def monoB (ops : Array Oper) (n : Nat) : Bool :=
  ops.toList.zipIdx.all fun (o, i) =>
    (o.after.all fun e => !Region.binds .any e || decide (e.on < i)) &&
    (match o.dst with | some t => decide (t < n) | none => true) &&
    ops.toList.zipIdx.all fun (x, j) =>
      match x.dst with
      | some t => (i == j || o.dst != some t) && (!(o.looksAt ops).contains t || (srcOf ops o t).isSome || i == j || waitsFor x i)
      | none => true

theorem getD_of_lt {l : Array Bool} {i : Nat} (h : i < l.size) (b c : Bool) : l.getD i b = l.getD i c := by
  simp [Array.getD, h]

theorem eval_put_same {a : Act} {t : Tmp} {v : Value} (h : t < a.tmps.size) : (a.put (some t) v).eval (.tmp t) = v := by
  simp [Act.eval, Act.put, Array.getD, h]
theorem eval_put_other {a : Act} {t u : Tmp} {v : Value} (h : u ≠ t) : (a.put (some u) v).eval (.tmp t) = a.eval (.tmp t) := by
  simp [Act.eval, Act.put, Array.getElem?_setIfInBounds_ne h]

theorem monoB_spec {n : Nat} (h : monoB ops n = true) {i : Nat} {o : Oper} (ho : ops[i]? = some o) :
    (∀ e ∈ o.after, Region.binds .any e = true → e.on < i) ∧ (∀ t, o.dst = some t → t < n) ∧
    ∀ (j : Nat) (x : Oper) (t : Tmp), ops[j]? = some x → x.dst = some t → (i = j ∨ o.dst ≠ some t) ∧ (t ∈ o.looksAt ops → (srcOf ops o t).isSome = true ∨ i = j ∨ waitsFor x i = true) := by
  unfold monoB at h
  rw [List.all_eq_true] at h
  have mem : ∀ (j : Nat) (x : Oper), ops[j]? = some x → (x, j) ∈ ops.toList.zipIdx := fun j x hx => by
    rw [List.mem_zipIdx_iff_getElem?]; simpa using hx
  have h1 := h _ (mem i o ho)
  simp only [Bool.and_eq_true, List.all_eq_true] at h1
  obtain ⟨⟨h1, h2⟩, h3⟩ := h1
  refine ⟨fun e he hb => ?_, fun t ht => ?_, fun j x t hx hxt => ?_⟩
  · have := Array.all_eq_true_iff_forall_mem.1 h1 e he
    simp only [hb, Bool.not_true, Bool.false_or, decide_eq_true_eq] at this
    exact this
  · rw [ht] at h2; simpa using h2
  · have := h3 _ (mem j x hx)
    simp only [hxt, Bool.and_eq_true, Bool.or_eq_true, beq_iff_eq, bne_iff_ne, Bool.not_eq_true', List.contains_eq_mem] at this
    refine ⟨this.1, fun hm => ?_⟩
    rcases this.2 with ((h4 | h4) | h4) | h4
    · simp [hm] at h4
    · exact .inl h4
    · exact .inr (.inl h4)
    · exact .inr (.inr h4)

theorem srcOf_spec {o : Oper} {t : Tmp} {j : Nat} (h : srcOf ops o t = some j) : ∃ e ∈ o.after, Region.binds .any e = true ∧ e.on = j ∧ ∃ x, ops[j]? = some x ∧ x.dst = some t := by
  unfold srcOf at h
  obtain ⟨e, he, h1⟩ := List.exists_of_findSome?_eq_some h
  split at h1
  · rename_i hc
    simp only [Bool.and_eq_true, beq_iff_eq] at hc
    simp only [Option.some.injEq] at h1
    subst h1
    obtain ⟨hb, hd⟩ := hc
    obtain ⟨x, hx, hxt⟩ := Option.bind_eq_some_iff.1 hd
    exact ⟨e, by simpa using he, hb, rfl, x, hx, hxt⟩
  · simp at h1

/-- No operation chooses among channels; a guard's slot is one of the frame's. -/
def planB (ops : Array Oper) (n : Nat) : Bool :=
  ops.toList.all fun o => (match o.op with | .select .. => false | _ => true) && (match o.guard with | some (g, _) => (match (ops[g]?).bind (·.dst) with | some t => decide (t < n) | none => true) | none => true)

theorem planB_spec {n : Nat} (h : planB ops n = true) {i : Nat} {o : Oper} (ho : ops[i]? = some o) : (∀ cs b, o.op ≠ .select cs b) ∧ ∀ g b t, o.guard = some (g, b) → (ops[g]?).bind (·.dst) = some t → t < n := by
  unfold planB at h
  rw [List.all_eq_true] at h
  have := h o (by simpa using Array.mem_of_getElem? ho)
  rw [Bool.and_eq_true] at this
  refine ⟨fun cs b hc => by rw [hc] at this; simp at this, fun g b t hg ht => ?_⟩
  have := this.2
  rw [hg] at this
  simp only [ht, decide_eq_true_eq] at this
  exact this

/-- Two frames alike where an operation looks. -/
theorem exec_congr {o : Oper} {a b : Act} (hsel : ∀ cs b, o.op ≠ .select cs b) (hag : ∀ t ∈ o.looksAt ops, a.eval (.tmp t) = b.eval (.tmp t)) : execOp a.eval o = execOp b.eval o :=
  execOp_congr o hsel (fun x hx => by
    cases x with
    | tmp t => exact hag t (List.mem_append_left _ (List.mem_filterMap.2 ⟨.tmp t, by simpa using hx, rfl⟩))
    | _ => rfl)
theorem wanted_congr {o : Oper} {a b : Act} {n : Nat} (ha : a.tmps.size = n) (hb : b.tmps.size = n) (hgb : ∀ g b t, o.guard = some (g, b) → (ops[g]?).bind (·.dst) = some t → t < n)
    (hag : ∀ t ∈ o.looksAt ops, a.eval (.tmp t) = b.eval (.tmp t)) : Region.wanted o (yielded ops a.tmps) = Region.wanted o (yielded ops b.tmps) := by
  unfold Region.wanted
  cases hg : o.guard with
  | none => rfl
  | some gw =>
    obtain ⟨g, want⟩ := gw
    have hy : yielded ops a.tmps g = yielded ops b.tmps g := by
      unfold yielded
      cases ht : (ops[g]?).bind (·.dst) with
      | none => rfl
      | some t =>
        have h1 := hag t (List.mem_append_right _ (by rw [hg]; simp [ht]))
        have hlt := hgb g want t hg ht
        have e1 : a.tmps[t]? = some (a.eval (.tmp t)) := by simp [Act.eval, ha, hlt]
        have e2 : b.tmps[t]? = some (b.eval (.tmp t)) := by simp [Act.eval, hb, hlt]
        simp only [Option.bind_some, e1, e2, h1]
    simp only [hy]

/-- In every later world the operation yields this. -/
def PureAt (P : Program) (ops : Array Oper) (L : World → World → Prop) (w1 : World) (a : Act) (o : Oper) (v : Value) : Prop :=
  if Region.wanted o (yielded ops a.tmps) = true then ∀ w, L w1 w → (execOp a.eval o).run P w = .ok (.value v) w else v = undef

theorem PureAt.det {w1 : World} {a : Act} {o : Oper} {u v : Value} (hr : L w1 w1) (h : PureAt P ops L w1 a o u) (k : PureAt P ops L w1 a o v) : u = v := by
  unfold PureAt at h k
  split at h
  · rename_i hw
    rw [if_pos hw] at k
    have := (h w1 hr).symm.trans (k w1 hr)
    injection this with this
    injection this
  · rename_i hw
    rw [if_neg hw] at k
    rw [h, k]

theorem PureAt.congr {w1 : World} {a b : Act} {o : Oper} {v : Value} {n : Nat} (ha : a.tmps.size = n) (hb : b.tmps.size = n) (hsel : ∀ cs b, o.op ≠ .select cs b) (hgb : ∀ g b t, o.guard = some (g, b) → (ops[g]?).bind (·.dst) = some t → t < n)
    (hag : ∀ t ∈ o.looksAt ops, a.eval (.tmp t) = b.eval (.tmp t)) (h : PureAt P ops L w1 a o v) : PureAt P ops L w1 b o v := by
  unfold PureAt at *
  rwa [← wanted_congr ha hb hgb hag, ← exec_congr hsel hag]

def snap (ops : Array Oper) (a0 a : Act) (o : Oper) (t : Tmp) : Value := match srcOf ops o t with | some _ => a.eval (.tmp t) | none => a0.eval (.tmp t)

/-- What holds of a value that an operation has made. -/
def Holds (P : Program) (ops : Array Oper) (L : World → World → Prop) (plan : List Sp) (n : Nat) (a0 : Act) (w1 : World) (i : Nat) (o : Oper) (a : Act) (w : World) (v : Value) : Prop :=
  match plan[i]? with
  | some .pure => ∀ b : Act, b.tmps.size = n → (∀ t ∈ o.looksAt ops, b.eval (.tmp t) = snap ops a0 a o t) → PureAt P ops L w1 b o v
  | some (.pin c) => v = c
  | some (.any R) => R w v
  | none => True

structure St (P : Program) (ops : Array Oper) (L : World → World → Prop) (plan : List Sp) (n : Nat) (a0 : Act) (w1 : World) (listed : Array Bool) (a : Act) (w : World) : Prop where
  later : L w1 w
  defers : a.defers = a0.defers
  size : a.tmps.size = n
  lsize : listed.size = ops.size
  shut : ∀ (j : Nat) (o : Oper), ops[j]? = some o → listed.getD j false = true → ∀ e ∈ o.after, Region.binds .any e = true → listed.getD e.on false = true
  new : ∀ (j : Nat) (o : Oper) (t : Tmp), ops[j]? = some o → listed.getD j false = true → o.dst = some t → Holds P ops L plan n a0 w1 j o a w (a.eval (.tmp t))
  old : ∀ t, (∀ (j : Nat) (o : Oper), ops[j]? = some o → listed.getD j false = true → o.dst ≠ some t) → a.eval (.tmp t) = a0.eval (.tmp t)

section
variable {plan : List Sp} {n : Nat} {a0 : Act} {w1 : World} {listed : Array Bool} {a : Act} {w : World}

theorem St.unlisted (st : St P ops L plan n a0 w1 listed a w) {i : Nat} {o : Oper} (ho : ops[i]? = some o) (hun : listed.getD i true = false) : listed.getD i false = false := by
  rw [getD_of_lt (by rw [st.lsize]; exact (Array.getElem?_eq_some_iff.1 ho).1) false true]; exact hun

theorem St.step (hstab : ∀ (i : Nat) R, plan[i]? = some (.any R) → ∀ w w' v, L w w' → R w v → R w' v) (htr : ∀ a b c, L a b → L b c → L a c) (hB : monoB ops n = true)
    (st : St P ops L plan n a0 w1 listed a w) {i : Nat} {o : Oper} (ho : ops[i]? = some o) (hun : listed.getD i true = false)
    (hall : ∀ e ∈ o.after, Region.binds .any e = true → listed.getD e.on false = true) {v : Value} {w' : World} (hL : L w w') (hR : ∀ t, o.dst = some t → Holds P ops L plan n a0 w1 i o (a.put o.dst v) w' v) :
    St P ops L plan n a0 w1 (listed.setIfInBounds i true) (a.put o.dst v) w' := by
  obtain ⟨m1, m2, m3⟩ := monoB_spec hB ho
  have hi : i < ops.size := (Array.getElem?_eq_some_iff.1 ho).1
  have hif := st.unlisted ho hun
  have gd : ∀ j, (listed.setIfInBounds i true).getD j false = true ↔ j = i ∨ listed.getD j false = true := by
    intro j
    by_cases hj : j = i
    · subst hj; simp [Array.getD, st.lsize, hi]
    · rw [Array.getD_eq_getD_getElem?, Array.getElem?_setIfInBounds_ne (Ne.symm hj), ← Array.getD_eq_getD_getElem?]; simp [hj]
  have keep : ∀ (j : Nat) (x : Oper) (t : Tmp), ops[j]? = some x → j ≠ i → x.dst = some t → (a.put o.dst v).eval (.tmp t) = a.eval (.tmp t) := by
    intro j x t hx hji ht
    have hne := (m3 j x t hx ht).1.resolve_left (Ne.symm hji)
    cases hd : o.dst with
    | none => rfl
    | some u => exact eval_put_other (fun h => hne (by rw [hd, h]))
  refine ⟨htr _ _ _ st.later hL, by cases o.dst <;> exact st.defers, ?_, by simp [st.lsize], ?_, ?_, ?_⟩
  · cases hd : o.dst with
    | none => exact st.size
    | some t => simp [Act.put, st.size]
  · intro j x hx hl e he hb
    rw [gd] at hl ⊢
    right
    rcases hl with rfl | hl
    · rw [ho] at hx; cases hx; exact hall e he hb
    · exact st.shut j x hx hl e he hb
  · intro j x t hx hl ht
    rw [gd] at hl
    by_cases hji : j = i
    · subst hji
      rw [ho] at hx; cases hx
      rw [ht, eval_put_same (by rw [st.size]; exact m2 t ht), ← ht]
      exact hR t ht
    · have hl' : listed.getD j false = true := hl.resolve_left hji
      have := st.new j x t hx hl' ht
      rw [keep j x t hx hji ht]
      unfold Holds at this ⊢
      split at this
      · rename_i hp
        refine fun b hb hag => this b hb (fun u hu => (hag u hu).trans ?_)
        unfold snap
        cases hs : srcOf ops x u with
        | none => rfl
        | some k =>
          obtain ⟨e, he, hb', rfl, y, hy, hyt⟩ := srcOf_spec hs
          have hkl := st.shut j x hx hl' e he hb'
          exact keep e.on y u hy (fun h => by rw [h, hif] at hkl; cases hkl) hyt
      · exact this
      · rename_i R hp; exact hstab j R hp _ _ _ hL this
      · trivial
  · intro t hno
    have h1 := hno i o ho ((gd i).2 (.inl rfl))
    have e : (a.put o.dst v).eval (.tmp t) = a.eval (.tmp t) := by
      cases hd : o.dst with
      | none => rfl
      | some u => exact eval_put_other (fun h => h1 (by rw [hd, h]))
    rw [e]
    exact st.old t (fun j x hx hl => hno j x hx ((gd j).2 (.inr hl)))

/-- An operand that no operation ahead makes is what it was. -/
theorem St.olds (hB : monoB ops n = true) (st : St P ops L plan n a0 w1 listed a w) {i : Nat} {o : Oper} (ho : ops[i]? = some o) (hun : listed.getD i true = false) {t : Tmp} (ht : t ∈ o.looksAt ops) (hs : srcOf ops o t = none) : a.eval (.tmp t) = a0.eval (.tmp t) := by
  obtain ⟨m1, m2, m3⟩ := monoB_spec hB ho
  have hif := st.unlisted ho hun
  refine st.old t (fun j x hx hl hxt => ?_)
  rcases (m3 j x t hx hxt).2 ht with h | h | h
  · rw [hs] at h; cases h
  · subst h; rw [hif] at hl; cases hl
  · unfold waitsFor at h
    rw [Array.any_eq_true] at h
    obtain ⟨k, hk, h⟩ := h
    simp only [Bool.and_eq_true, beq_iff_eq] at h
    have := st.shut j x hx hl x.after[k] (Array.getElem_mem hk) h.1
    rw [h.2, hif] at this
    cases this
end

theorem all_listed {n : Nat} (hB : monoB ops n = true) {listed : Array Bool} (hs : listed.size = ops.size) (hr : Region.ready .any ops listed = []) : ∀ j, j < ops.size → listed.getD j false = true := by
  intro j
  induction j using Nat.strongRecOn with
  | ind j ih =>
    intro hj
    cases hl : listed.getD j false with
    | true => rfl
    | false =>
      have ho : ops[j]? = some ops[j] := Array.getElem?_eq_getElem hj
      have : j ∈ Region.ready .any ops listed := mem_ready.2 ⟨by rw [getD_of_lt (by rw [hs]; exact hj) true false]; exact hl, _, ho, fun e he hb => ih e.on ((monoB_spec hB ho).1 e he hb) (Nat.lt_trans ((monoB_spec hB ho).1 e he hb) hj)⟩
      rw [hr] at this; cases this

theorem act_ext {a b : Act} (h1 : a.tmps.size = b.tmps.size) (h2 : a.defers = b.defers) (h3 : ∀ t, a.eval (.tmp t) = b.eval (.tmp t)) : a = b := by
  obtain ⟨x, d⟩ := a
  obtain ⟨y, d'⟩ := b
  simp only at h1 h2
  subst h2
  have : x = y := by
    refine Array.ext h1 (fun i hi hi' => ?_)
    have := h3 i
    simpa [Act.eval, Array.getD, hi, hi'] using this
  rw [this]

/-- How one operation ends. -/
def QR (L : World → World → Prop) (o : Oper) (R : World → Value → Prop) (a : Act) (w : World) (e : Exit) (a' : Act) (w' : World) : Prop :=
  e = .normal ∧ a'.defers = a.defers ∧ L w w' ∧ ∀ t, o.dst = some t → R w' (a'.eval (.tmp t))

/-- What is known of the operands that operations of the region have made. -/
def Know (ops : Array Oper) (plan : List Sp) (o : Oper) (a : Act) (w : World) : Prop :=
  ∀ t ∈ o.looksAt ops, ∀ j R, srcOf ops o t = some j → plan[j]? = some (.any R) → R w (a.eval (.tmp t))

/-- What is known of all. -/
def KnowAll (ops : Array Oper) (plan : List Sp) (a : Act) (w : World) : Prop :=
  ∀ (j : Nat) (o : Oper) (t : Tmp) R, ops[j]? = some o → o.dst = some t → plan[j]? = some (.any R) → R w (a.eval (.tmp t))

/-- The operations in the text's order, each by what is said of it. -/
def WM (P : Program) (ops : Array Oper) (L : World → World → Prop) (plan : List Sp) (w1 : World) (Q : Act → World → Prop) : List Oper → List Sp → Act → Prop
  | o :: l, .pure :: ps, a => ∃ c, PureAt P ops L w1 a o c ∧ WM P ops L plan w1 Q l ps (a.put o.dst c)
  | o :: l, .pin c :: ps, a => (∀ w, L w1 w → Know ops plan o a w → wpList P ops (QR L o (fun _ v => v = c) a w) [o] a w) ∧ WM P ops L plan w1 Q l ps (a.put o.dst c)
  | o :: l, .any R :: ps, a => (∀ w, L w1 w → Know ops plan o a w → wpList P ops (QR L o R a w) [o] a w) ∧ ∀ v, WM P ops L plan w1 Q l ps (a.put o.dst v)
  | [], [], a => ∀ w, L w1 w → KnowAll ops plan a w → Q a w
  | _, _, _ => False

theorem does_of_wpList {o : Oper} {R : World → Value → Prop} {al a : Act} {w : World} {n : Nat} (hal : al.tmps.size = n) (ha : a.tmps.size = n) (hsel : ∀ cs b, o.op ≠ .select cs b) (hgb : ∀ g b t, o.guard = some (g, b) → (ops[g]?).bind (·.dst) = some t → t < n)
    (hd : ∀ t, o.dst = some t → t < n) (hag : ∀ t ∈ o.looksAt ops, a.eval (.tmp t) = al.eval (.tmp t))
    (h : wpList P ops (QR L o R al w) [o] al w) : if Region.wanted o (yielded ops a.tmps) = true then Does P L o a w (fun w' v => ∀ t, o.dst = some t → R w' v) else L w w ∧ ∀ t, o.dst = some t → R w undef := by
  have he := exec_congr hsel hag
  have hw := wanted_congr ha hal hgb hag
  have val : ∀ v w', QR L o R al w .normal (al.put o.dst v) w' → L w w' ∧ ∀ t, o.dst = some t → R w' v := by
    rintro v w' ⟨-, -, h1, h2⟩
    refine ⟨h1, fun t hdst => ?_⟩
    have := h2 t hdst
    rwa [hdst, eval_put_same (by rw [hal]; exact hd t hdst)] at this
  rw [hw]
  unfold wpList at h
  split
  · rename_i hwt
    rw [if_pos hwt] at h
    have h : o.wp P al w (wpList P ops (QR L o R al w) []) (QR L o R al w) := by
      rcases h with h | ⟨-, a', w', h, -⟩
      · exact h
      · cases h
    unfold Oper.wp at h
    unfold Does
    rw [he]
    generalize (execOp al.eval o).run P w = r at *
    cases r with
    | ok x w' =>
      cases x <;> simp only [Oper.upon] at h <;> simp only [DoesUpon]
      case value u => exact val u w' h
      case skip => exact val undef w' h
      case defer d =>
        obtain ⟨-, h2, -⟩ := h
        have : ((({ al with defers := d :: al.defers } : Act).put o.dst undef)).defers = d :: al.defers := by cases o.dst <;> rfl
        rw [this] at h2
        have := congrArg List.length h2
        simp at this
      case enter f args =>
        refine Calls.mono h ?_
        intro e w'' h2
        cases e with
        | returned v => exact ⟨v, rfl, val v w'' h2⟩
        | panicked c => cases h2.1
        | outgrown => obtain ⟨a', w3, h3, -⟩ := h2; cases h3
      case row row args => exact Rows.mono h fun v w'' h2 => val v w'' h2
    | halt x w' => cases x <;> simp only [Oper.upon] at h <;> first | exact h.elim | (cases h.1)
  · rename_i hwt
    rw [if_neg hwt] at h
    exact val undef w h

section
variable {plan : List Sp} {n : Nat} {a0 : Act} {w1 : World} {listed : Array Bool} {a : Act} {w : World} {QF : Act → World → Prop}

/-- The text's frame: alike where what stands there has come up. -/
theorem lex_reach (hrefl : ∀ w, L w w) (hB : monoB ops n = true) (hn : a0.tmps.size = n) (st : St P ops L plan n a0 w1 listed a w) (h : WM P ops L plan w1 QF ops.toList plan a0) : ∀ k, k ≤ ops.size →
    ∃ al : Act, WM P ops L plan w1 QF (ops.toList.drop k) (plan.drop k) al ∧ al.tmps.size = n ∧ al.defers = a0.defers ∧
      (∀ (j : Nat) (x : Oper) (t : Tmp), j < k → ops[j]? = some x → x.dst = some t → listed.getD j false = true → al.eval (.tmp t) = a.eval (.tmp t)) ∧
      (∀ t, (∀ (j : Nat) (x : Oper), j < k → ops[j]? = some x → x.dst ≠ some t) → al.eval (.tmp t) = a0.eval (.tmp t)) := by
  intro k
  induction k with
  | zero => exact fun _ => ⟨a0, by simpa using h, hn, rfl, fun j _ _ hj => by omega, fun _ _ => rfl⟩
  | succ k ih =>
    intro hk
    obtain ⟨al, hw, hs, hdf, h1, h2⟩ := ih (by omega)
    have hkl : k < ops.toList.length := by simp; omega
    have ho : ops[k]? = some ops[k] := Array.getElem?_eq_getElem (by omega)
    obtain ⟨o, hoo⟩ : ∃ o, o = ops[k] := ⟨_, rfl⟩
    rw [← hoo] at ho
    obtain ⟨m1, m2, m3⟩ := monoB_spec hB ho
    have hdrop : ops.toList.drop k = o :: ops.toList.drop (k + 1) := by rw [List.drop_eq_getElem_cons hkl]; simp [hoo]
    rw [hdrop] at hw
    have ext : ∀ c, (listed.getD k false = true → ∀ t, o.dst = some t → c = a.eval (.tmp t)) → (al.put o.dst c).tmps.size = n ∧ (al.put o.dst c).defers = a0.defers ∧
        (∀ (j : Nat) (x : Oper) (t : Tmp), j < k + 1 → ops[j]? = some x → x.dst = some t → listed.getD j false = true → (al.put o.dst c).eval (.tmp t) = a.eval (.tmp t)) ∧
        (∀ t, (∀ (j : Nat) (x : Oper), j < k + 1 → ops[j]? = some x → x.dst ≠ some t) → (al.put o.dst c).eval (.tmp t) = a0.eval (.tmp t)) := by
      intro c hc
      refine ⟨?_, ?_, fun j x t hj hx hxt hl => ?_, fun t hno => ?_⟩
      · cases hd : o.dst <;> simp [Act.put, hs]
      · cases o.dst <;> exact hdf
      · by_cases hjk : j = k
        · subst hjk
          rw [ho] at hx; cases hx
          rw [hxt, eval_put_same (by rw [hs]; exact m2 t hxt)]
          exact hc hl t hxt
        · have hne := (m3 j x t hx hxt).1.resolve_left (fun h => hjk h.symm)
          have : (al.put o.dst c).eval (.tmp t) = al.eval (.tmp t) := by
            cases hd : o.dst with
            | none => rfl
            | some u => exact eval_put_other (fun h => hne (by rw [hd, h]))
          rw [this]; exact h1 j x t (by omega) hx hxt hl
      · have hne := hno k o (by omega) ho
        have : (al.put o.dst c).eval (.tmp t) = al.eval (.tmp t) := by
          cases hd : o.dst with
          | none => rfl
          | some u => exact eval_put_other (fun h => hne (by rw [hd, h]))
        rw [this]; exact h2 t (fun j x hj hx => hno j x (by omega) hx)
    cases hp : plan.drop k with
    | nil => rw [hp] at hw; exact hw.elim
    | cons s ps =>
      rw [hp] at hw
      have hpk : plan[k]? = some s := by have := congrArg List.head? hp; simpa using this
      have hps : plan.drop (k + 1) = ps := by rw [← List.drop_drop, hp]; rfl
      rw [hps]
      cases s with
      | pure =>
        obtain ⟨c, hc, hw⟩ := hw
        refine ⟨al.put o.dst c, hw, ext c (fun hl t ht => ?_)⟩
        have hH := st.new k o t ho hl ht
        unfold Holds at hH
        rw [hpk] at hH
        refine PureAt.det (hrefl w1) hc (hH al hs (fun u hu => ?_))
        unfold snap
        cases hsr : srcOf ops o u with
        | none =>
          refine h2 u (fun j x hj hx hxt => ?_)
          rcases (m3 j x u hx hxt).2 hu with h | h | h
          · rw [hsr] at h; cases h
          · omega
          · unfold waitsFor at h
            rw [Array.any_eq_true] at h
            obtain ⟨i, hi, h⟩ := h
            simp only [Bool.and_eq_true, beq_iff_eq] at h
            have := (monoB_spec hB hx).1 x.after[i] (Array.getElem_mem hi) h.1
            omega
        | some j =>
          obtain ⟨e, he, hb, rfl, x, hx, hxt⟩ := srcOf_spec hsr
          exact h1 e.on x u (m1 e he hb) hx hxt (st.shut k o ho hl e he hb)
      | pin c =>
        refine ⟨al.put o.dst c, hw.2, ext c (fun hl t ht => ?_)⟩
        have hH := st.new k o t ho hl ht
        unfold Holds at hH
        rw [hpk] at hH
        exact hH.symm
      | any R =>
        cases hd : o.dst with
        | none => exact ⟨al.put o.dst undef, by have := hw.2 undef; exact this, ext undef (fun _ t ht => by rw [hd] at ht; cases ht)⟩
        | some t => exact ⟨al.put o.dst (a.eval (.tmp t)), hw.2 _, ext _ (fun _ u hu => by rw [hd] at hu; cases hu; rfl)⟩
end

/-- What is said stays true. -/
def StabAll (L : World → World → Prop) : List Sp → Prop
  | [] => True
  | .any R :: ps => (∀ w w' v, L w w' → R w v → R w' v) ∧ StabAll L ps
  | .pure :: ps => StabAll L ps
  | .pin _ :: ps => StabAll L ps
theorem stabAll_at : ∀ (ps : List Sp), StabAll L ps → ∀ (i : Nat) R, ps[i]? = some (.any R) → ∀ w w' v, L w w' → R w v → R w' v
  | [], _, i, R, h => by simp at h
  | .any R' :: ps, h, 0, R, hi => by simp at hi; subst hi; exact h.1
  | .pure :: ps, h, 0, R, hi => by simp at hi
  | .pin _ :: ps, h, 0, R, hi => by simp at hi
  | .any R' :: ps, h, i + 1, R, hi => stabAll_at ps h.2 i R (by simpa using hi)
  | .pure :: ps, h, i + 1, R, hi => stabAll_at ps h i R (by simpa using hi)
  | .pin _ :: ps, h, i + 1, R, hi => stabAll_at ps h i R (by simpa using hi)

/-- **A region that draws its order, walked in the text's order.** -/
theorem wp_region_plan_lit {id : Nat} {Q : Exit → Act → World → Prop} {a0 : Act} {w0 : World} {l : List Oper} (n : Nat) (plan : List Sp) (hm : P.follows .mixedOrders = true) (hB : (monoB l.toArray n && planB l.toArray n) = true) (hn : a0.tmps.size = n)
    (hrefl : ∀ w, L w w) (htr : ∀ a b c, L a b → L b c → L a c) (hstab' : StabAll L plan)
    (h : WM P l.toArray L plan w0.drew (fun a w => Q .normal a w) l plan a0) : (Code.region id l.toArray true).wp P Q a0 w0 := by
  have hstab := stabAll_at plan hstab'
  obtain ⟨ops, hops⟩ : ∃ ops, ops = l.toArray := ⟨_, rfl⟩
  have hl : l = ops.toList := by rw [hops]
  rw [← hops] at hB h ⊢
  rw [hl] at h
  clear hl hops
  rw [Bool.and_eq_true] at hB
  obtain ⟨hB, hP⟩ := hB
  have fin : ∀ listed a w, St P ops L plan n a0 w0.drew listed a w → Region.ready .any ops listed = [] → Q .normal a w := by
    intro listed a w st hr
    have hl := all_listed hB st.lsize hr
    obtain ⟨al, hw, hs, hdf, h1, h2⟩ := lex_reach hrefl hB hn st h ops.size (Nat.le_refl _)
    have hlt : ∀ (i : Nat) (o : Oper), ops[i]? = some o → i < ops.size := fun i o ho => (Array.getElem?_eq_some_iff.1 ho).1
    have heq : al = a := by
      refine act_ext (hs.trans st.size.symm) (hdf.trans st.defers.symm) (fun t => ?_)
      by_cases ht : ∃ (i : Nat) (o : Oper), ops[i]? = some o ∧ o.dst = some t
      · obtain ⟨i, o, ho, hot⟩ := ht
        exact h1 i o t (hlt i o ho) ho hot (hl i (hlt i o ho))
      · rw [h2 t (fun i o _ ho hot => ht ⟨i, o, ho, hot⟩)]
        exact (st.old t (fun j o ho _ hot => ht ⟨j, o, ho, hot⟩)).symm
    rw [heq] at hw
    have e1 : ops.toList.drop ops.size = [] := by rw [List.drop_eq_nil_iff]; simp
    rw [e1] at hw
    cases hp : plan.drop ops.size with
    | cons s ps => rw [hp] at hw; exact hw.elim
    | nil =>
      rw [hp] at hw
      refine hw w st.later (fun j o t R ho hot hpl => ?_)
      have := st.new j o t ho (hl j (hlt j o ho)) hot
      unfold Holds at this
      rw [hpl] at this
      exact this
  have go : ∀ (fuel : Nat) (listed : Array Bool) (a : Act) (w : World), St P ops L plan n a0 w0.drew listed a w → (fuel = 0 → Region.ready .any ops listed = []) → (∀ i, i ∈ Region.ready .any ops listed → (listed.toList.filter (! ·)).length ≤ fuel) →
      wpAny P .any ops Q fuel listed a w := by
    intro fuel
    induction fuel with
    | zero => intro listed a w st h0 _; exact ⟨h0 rfl, fin listed a w st (h0 rfl)⟩
    | succ fuel ih =>
      intro listed a w st _ hc
      refine ⟨fun hr => fin listed a w st hr, fun i hi => ?_⟩
      obtain ⟨hun, o, ho, hall⟩ := mem_ready.1 hi
      have hil : i < listed.size := by rw [st.lsize]; exact (Array.getElem?_eq_some_iff.1 ho).1
      have hcount : ((listed.setIfInBounds i true).toList.filter (! ·)).length + 1 = (listed.toList.filter (! ·)).length := by
        have hget : listed.toList[i]? = some false := by
          have : listed.getD i true = false := hun
          simp [Array.getD, hil] at this
          simp [hil, this]
        have aux : ∀ (l : List Bool) (i : Nat), l[i]? = some false → ((l.set i true).filter (! ·)).length + 1 = (l.filter (! ·)).length := by
          intro l
          induction l with
          | nil => intro i h; simp at h
          | cons b l ih =>
            intro i h
            cases i with
            | zero => simp at h; subst h; simp
            | succ i =>
              have := ih i (by simpa using h)
              cases b <;> simp <;> omega
        rw [Array.toList_setIfInBounds]
        exact aux _ _ hget
      have hnext : ∀ v w', L w w' → (∀ t, o.dst = some t → Holds P ops L plan n a0 w0.drew i o (a.put o.dst v) w' v) → wpAny P .any ops Q fuel (listed.setIfInBounds i true) (a.put o.dst v) w' := by
        intro v w' hL hR
        have st' := st.step hstab htr hB ho hun hall hL hR
        have hle := hc i hi
        refine ih _ _ _ st' (fun h0 => ?_) (fun j hj => by omega)
        subst h0
        have hz : ((listed.setIfInBounds i true).toList.filter (! ·)).length = 0 := by omega
        cases hr : Region.ready .any ops (listed.setIfInBounds i true) with
        | nil => rfl
        | cons j l =>
          have hj : j ∈ Region.ready .any ops (listed.setIfInBounds i true) := by rw [hr]; exact List.mem_cons_self ..
          obtain ⟨hu, x, hx, -⟩ := mem_ready.1 hj
          have hjl : j < (listed.setIfInBounds i true).size := by rw [st'.lsize]; exact (Array.getElem?_eq_some_iff.1 hx).1
          have hmem : false ∈ (listed.setIfInBounds i true).toList := by
            obtain ⟨l2, hl2⟩ : ∃ l2, l2 = listed.setIfInBounds i true := ⟨_, rfl⟩
            rw [← hl2] at hu hjl ⊢
            have h2 : l2[j] = false := by simpa [Array.getD, hjl] using hu
            rw [← h2]
            exact Array.mem_toList_iff.2 (Array.getElem_mem hjl)
          have : false ∈ (listed.setIfInBounds i true).toList.filter (! ·) := List.mem_filter.2 ⟨hmem, rfl⟩
          rw [List.length_eq_zero_iff.1 hz] at this; cases this
      obtain ⟨m1, m2, m3⟩ := monoB_spec hB ho
      obtain ⟨q1, q2⟩ := planB_spec hP ho
      have hio : i < ops.size := (Array.getElem?_eq_some_iff.1 ho).1
      obtain ⟨al, hw, hs, hdf, h1, h2⟩ := lex_reach hrefl hB hn st h i (Nat.le_of_lt hio)
      have halno : ∀ t ∈ o.looksAt ops, srcOf ops o t = none → al.eval (.tmp t) = a0.eval (.tmp t) := by
        intro t ht hsr
        refine h2 t (fun j x hj hx hxt => ?_)
        rcases (m3 j x t hx hxt).2 ht with h | h | h
        · rw [hsr] at h; cases h
        · omega
        · unfold waitsFor at h
          rw [Array.any_eq_true] at h
          obtain ⟨k, hk, h⟩ := h
          simp only [Bool.and_eq_true, beq_iff_eq] at h
          have := (monoB_spec hB hx).1 x.after[k] (Array.getElem_mem hk) h.1
          omega
      have hag : ∀ t ∈ o.looksAt ops, a.eval (.tmp t) = al.eval (.tmp t) := by
        intro t ht
        cases hsr : srcOf ops o t with
        | none => rw [halno t ht hsr]; exact st.olds hB ho hun ht hsr
        | some j =>
          obtain ⟨e, he, hb, rfl, x, hx, hxt⟩ := srcOf_spec hsr
          exact (h1 e.on x t (m1 e he hb) hx hxt (hall e he hb)).symm
      have hkn : Know ops plan o al w := by
        intro t ht j R hsr hpl
        rw [← hag t ht]
        obtain ⟨e, he, hb, rfl, x, hx, hxt⟩ := srcOf_spec hsr
        have := st.new e.on x t hx (hall e he hb) hxt
        unfold Holds at this
        rw [hpl] at this
        exact this
      have hkl : i < ops.toList.length := by simpa using hio
      have hdrop : ops.toList.drop i = o :: ops.toList.drop (i + 1) := by
        rw [List.drop_eq_getElem_cons hkl]
        have := (Array.getElem?_eq_some_iff.1 ho).2
        simp [this]
      rw [hdrop] at hw
      cases hp : plan.drop i with
      | nil => rw [hp] at hw; exact hw.elim
      | cons s ps =>
        rw [hp] at hw
        have hpk : plan[i]? = some s := by have := congrArg List.head? hp; simpa using this
        unfold wpOp
        simp only [ho]
        cases s with
        | pure =>
          obtain ⟨c, hc, -⟩ := hw
          have hHc : ∀ t, o.dst = some t → Holds P ops L plan n a0 w0.drew i o (a.put o.dst c) w c := by
            intro td htd
            unfold Holds
            rw [hpk]
            intro b hb hbag
            refine PureAt.congr hs hb q1 q2 (fun t ht => ?_) hc
            rw [hbag t ht]
            unfold snap
            cases hsr : srcOf ops o t with
            | none => exact halno t ht hsr
            | some j =>
              obtain ⟨e, he, hb', rfl, x, hx, hxt⟩ := srcOf_spec hsr
              have hne := (m3 e.on x t hx hxt).1.resolve_left (fun h => by have := m1 e he hb'; omega)
              rw [← hag t ht]
              cases hd : o.dst with
              | none => rfl
              | some u => exact (eval_put_other (fun h => hne (by rw [hd, h]))).symm
          have hca := PureAt.congr hs st.size q1 q2 (fun t ht => (hag t ht).symm) hc
          unfold PureAt at hca
          split
          · rename_i hwt
            rw [if_pos hwt] at hca
            refine .inl ?_
            unfold Oper.wp
            rw [hca w st.later]
            exact hnext c w (hrefl w) hHc
          · rename_i hwt
            rw [if_neg hwt] at hca
            subst hca
            exact hnext _ w (hrefl w) hHc
        | pin c =>
          have hdo := does_of_wpList hs st.size q1 q2 m2 hag (hw.1 w st.later hkn)
          split
          · rename_i hwt
            rw [if_pos hwt] at hdo
            exact .inl (wp_of_does hdo fun v w' hL hv => hnext v w' hL fun t ht => by unfold Holds; rw [hpk]; exact hv t ht)
          · rename_i hwt
            rw [if_neg hwt] at hdo
            exact hnext _ w (hrefl w) fun t ht => by unfold Holds; rw [hpk]; exact hdo.2 t ht
        | any R =>
          have hdo := does_of_wpList hs st.size q1 q2 m2 hag (hw.1 w st.later hkn)
          split
          · rename_i hwt
            rw [if_pos hwt] at hdo
            exact .inl (wp_of_does hdo fun v w' hL hv => hnext v w' hL fun t ht => by unfold Holds; rw [hpk]; exact hv t ht)
          · rename_i hwt
            rw [if_neg hwt] at hdo
            exact hnext _ w (hrefl w) fun t ht => by unfold Holds; rw [hpk]; exact hdo.2 t ht
  refine wp_region_any hm (go ops.size _ a0 _ ⟨hrefl _, rfl, hn, by simp, ?_, ?_, fun _ _ => rfl⟩ ?_ ?_)
  · intro j o _ hl
    simp [Array.getD] at hl
  · intro j o t _ hl
    simp [Array.getD] at hl
  · intro h0
    unfold Region.ready; rw [h0]; rfl
  · intro i _
    exact Nat.le_trans (List.length_filter_le _ _) (by simp)

section
variable {plan : List Sp} {w1 : World} {QF : Act → World → Prop} {o : Oper} {l : List Oper} {ps : List Sp} {a : Act}
theorem wm_skip (hw : Region.wanted o (yielded ops a.tmps) = false) (h : ∀ K : Act → Prop, (∀ a, WM P ops L plan w1 QF l ps a → K a) → K (a.put o.dst undef)) : WM P ops L plan w1 QF (o :: l) (.pure :: ps) a :=
  ⟨undef, by unfold PureAt; rw [if_neg (by rw [hw]; exact Bool.false_ne_true)], h _ fun _ h => h⟩
theorem wm_move {x : Operand} (hw : Region.wanted o (yielded ops a.tmps) = true) (ho : o.op = .move x ∨ o.op = .assign x) (h : ∀ K : Act → Prop, (∀ a, WM P ops L plan w1 QF l ps a → K a) → K (a.put o.dst (a.eval x))) : WM P ops L plan w1 QF (o :: l) (.pure :: ps) a :=
  ⟨a.eval x, by
    unfold PureAt; rw [if_pos hw]
    intro w _
    rcases ho with ho | ho
    · exact run_move x ho w
    · exact run_assign x ho w, h _ fun _ h => h⟩
theorem wm_run (hw : Region.wanted o (yielded ops a.tmps) = true) (h : ∀ K : Act → Prop, (∀ a, WM P ops L plan w1 QF l ps a → K a) → ∃ c, (∀ w, L w1 w → (execOp a.eval o).run P w = .ok (.value c) w) ∧ K (a.put o.dst c)) :
    WM P ops L plan w1 QF (o :: l) (.pure :: ps) a := by
  obtain ⟨c, h1, h2⟩ := h _ fun _ h => h
  exact ⟨c, by unfold PureAt; rw [if_pos hw]; exact h1, h2⟩
theorem wm_pin {c : Value} (h : ∀ K : Act → Prop, (∀ a, WM P ops L plan w1 QF l ps a → K a) → (∀ w, L w1 w → Know ops plan o a w → wpList P ops (QR L o (fun _ v => v = c) a w) [o] a w) ∧ K (a.put o.dst c)) :
    WM P ops L plan w1 QF (o :: l) (.pin c :: ps) a := h _ (fun _ h => h)
theorem wm_any {Rv : World → Value → Prop} (h : ∀ K : Act → Prop, (∀ a, WM P ops L plan w1 QF l ps a → K a) → (∀ w, L w1 w → Know ops plan o a w → wpList P ops (QR L o Rv a w) [o] a w) ∧ ∀ v, K (a.put o.dst v)) :
    WM P ops L plan w1 QF (o :: l) (.any Rv :: ps) a := h _ (fun _ h => h)
theorem wm_end (h : ∀ w, L w1 w → KnowAll ops plan a w → QF a w) : WM P ops L plan w1 QF [] [] a := h

theorem Know.get {w : World} (hk : Know ops plan o a w) (t j : Nat) {Rv : World → Value → Prop} (h : ((o.looksAt ops).contains t && srcOf ops o t == some j) = true) (hp : plan[j]? = some (.any Rv)) : Rv w (a.eval (.tmp t)) := by
  simp only [Bool.and_eq_true, List.contains_eq_mem, decide_eq_true_eq, beq_iff_eq] at h
  exact hk t h.1 j Rv h.2 hp
theorem KnowAll.get {w : World} (hk : KnowAll ops plan a w) (j t : Nat) {Rv : World → Value → Prop} (h : ((ops[j]?).bind (·.dst) == some t) = true) (hp : plan[j]? = some (.any Rv)) : Rv w (a.eval (.tmp t)) := by
  rw [beq_iff_eq] at h
  obtain ⟨x, hx, hxt⟩ := Option.bind_eq_some_iff.1 h
  exact hk j x t Rv hx hxt hp

theorem qr_pin {c : Value} {t : Tmp} {m : List Value} {d : List Deferred} {w w' : World} (hd : o.dst = some t) (hv : m[t]? = some c) (hdef : d = a.defers) (hL : L w w') :
    QR L o (fun _ v => v = c) a w .normal ⟨m.toArray, d⟩ w' := ⟨rfl, hdef, hL, fun u hu => by
  rw [hd] at hu; cases hu
  simp [Act.eval, hv]⟩
theorem qr_any {Rv : World → Value → Prop} {t : Tmp} {v : Value} {m : List Value} {d : List Deferred} {w w' : World} (hd : o.dst = some t) (hv : m[t]? = some v) (hdef : d = a.defers) (hL : L w w') (hR : Rv w' v) :
    QR L o Rv a w .normal ⟨m.toArray, d⟩ w' := ⟨rfl, hdef, hL, fun u hu => by
  rw [hd] at hu; cases hu
  simpa [Act.eval, hv] using hR⟩
end

/-- Later: only new memory. -/
abbrev Later (w w' : World) : Prop := Below w.heap.size w w'
theorem Later.tr (a b c : World) (h : Later a b) (k : Later b c) : Later a c := h.trans (k.mono h.size)

end
end Go.Proofs.YteioacpfphigjaaGreatDoor
end

section
namespace Go.Proofs.YteioacpfphigjaaGreatDoor
open Go.RowKit
set_option linter.unusedVariables false
set_option linter.unusedSimpArgs false

def cmpI (a b : Int) : Int := if a < b then -1 else if b < a then 1 else 0
def cmpT (a b : Tk) : Int := if cmpI a.due b.due ≠ 0 then cmpI a.due b.due else if cmpI a.prio b.prio ≠ 0 then cmpI a.prio b.prio else cmpI a.name b.name
theorem isNaN_int (a : Int) (w : World) : Calls Tryz.prog 220 #[.int .i64 a] w fun e w' => e = .returned (.bool false) ∧ w' = w := by
  go_enter Tryz.func220, Tryz.ntmps220
  go_wp2
  go_ret
  exact ⟨rfl, rfl⟩
theorem cmp_Compare (a b : Int) (w : World) : Calls Tryz.prog 175 #[.int .i64 a, .int .i64 b] w fun e w' => e = .returned (.int .i64 (cmpI a b)) ∧ w' = w := by
  unfold cmpI
  by_cases h1 : a < b
  · rw [if_pos h1]
    go_enter Tryz.func175, Tryz.ntmps175
    go_wp2_with (first | (go_at_call 220; refine (isNaN_int _ _).mono ?_; rintro e w' ⟨rfl, rfl⟩) | fail)
    go_ret
    exact ⟨rfl, rfl⟩
  · rw [if_neg h1]
    by_cases h2 : b < a
    · rw [if_pos h2]
      go_enter Tryz.func175, Tryz.ntmps175
      go_wp2_with (first | (go_at_call 220; refine (isNaN_int _ _).mono ?_; rintro e w' ⟨rfl, rfl⟩) | fail)
      go_ret
      exact ⟨rfl, rfl⟩
    · rw [if_neg h2]
      go_enter Tryz.func175, Tryz.ntmps175
      go_wp2_with (first | (go_at_call 220; refine (isNaN_int _ _).mono ?_; rintro e w' ⟨rfl, rfl⟩) | fail)
      go_ret
      exact ⟨rfl, rfl⟩
/-- Three numbers in a slice of their own. -/
def Three (w : World) (v : Value) (x y z : Int) : Prop := ∃ b, v = .slice (some ⟨b, 0, none⟩) 3 3 ∧ w.cell? ⟨b, 0, none⟩ = some (.int .i64 x) ∧ w.cell? ⟨b, 1, none⟩ = some (.int .i64 y) ∧ w.cell? ⟨b, 2, none⟩ = some (.int .i64 z)
theorem Three.later {w w' : World} {v : Value} {x y z : Int} (h : Three w v x y z) (hb : Below w.heap.size w w') : Three w' v x y z := by
  obtain ⟨b, h1, h2, h3, h4⟩ := h
  have hl := block_lt_of_cell h2
  exact ⟨b, h1, (hb.cell (p := ⟨b, 0, none⟩) hl).trans h2, (hb.cell (p := ⟨b, 1, none⟩) hl).trans h3, (hb.cell (p := ⟨b, 2, none⟩) hl).trans h4⟩
theorem Three.new (w : World) (t : TypeId) (x y z : Int) : Three (w.alloc (.cells #[.int .i64 x, .int .i64 y, .int .i64 z] t)) (.slice (some ⟨w.heap.size, 0, none⟩) 3 3) x y z :=
  ⟨_, rfl, by rw [World.cell?, heap_alloc_new w]; rfl, by rw [World.cell?, heap_alloc_new w]; rfl, by rw [World.cell?, heap_alloc_new w]; rfl⟩
def orI (x y z : Int) : Int := if x ≠ 0 then x else if y ≠ 0 then y else z
set_option maxHeartbeats 4000000 in
theorem cmp_Or (v : Value) (x y z : Int) (w : World) (h : Three w v x y z) : Calls Tryz.prog 227 #[v] w fun e w' => e = .returned (.int .i64 (orI x y z)) ∧ w' = w := by
  obtain ⟨b, rfl, h0, h1, h2⟩ := h
  go_enter Tryz.func227, Tryz.ntmps227
  go_wp2
  go_loopw [8] (fun i wr => ∃ n : Nat, n ≤ 3 ∧ i = .int .i64 n ∧ wr = w ∧ (1 ≤ n → x = 0) ∧ (2 ≤ n → y = 0) ∧ (3 ≤ n → z = 0)) (fun i _ => 3 - (intOf i).toNat)
  case atStart => exact ⟨0, by omega, rfl, rfl, by omega, by omega, by omega⟩
  case round =>
    obtain ⟨n, hn, rfl, rfl, q1, q2, q3⟩ := hrel
    have hc : n = 0 ∨ n = 1 ∨ n = 2 ∨ n = 3 := by omega
    rcases hc with rfl | rfl | rfl | rfl
    · clear q1 q2 q3
      rw [show ((0 : Nat) : Int) = 0 from rfl]
      by_cases e0 : x = 0
      · subst e0
        go_wp2
        exact ⟨⟨1, by omega, rfl, trivial, fun _ => trivial, by omega, by omega⟩, by simp [intOf]⟩
      · go_wp2
        go_ret
        exact ⟨by simp [orI, e0], rfl⟩
    · have := q1 (by omega)
      subst this
      clear q1 q2 q3
      rw [show ((1 : Nat) : Int) = 1 from rfl]
      by_cases e0 : y = 0
      · subst e0
        go_wp2
        exact ⟨⟨2, by omega, rfl, trivial, fun _ => trivial, fun _ => trivial, by omega⟩, by simp [intOf]⟩
      · go_wp2
        go_ret
        exact ⟨by simp [orI, e0], rfl⟩
    · have := q1 (by omega)
      subst this
      have := q2 (by omega)
      subst this
      clear q1 q2 q3
      rw [show ((2 : Nat) : Int) = 2 from rfl]
      by_cases e0 : z = 0
      · subst e0
        go_wp2
        exact ⟨⟨3, by omega, rfl, trivial, fun _ => trivial, fun _ => trivial, fun _ => trivial⟩, by simp [intOf]⟩
      · go_wp2
        go_ret
        exact ⟨by simp [orI, e0], rfl⟩
    · have := q1 (by omega)
      subst this
      have := q2 (by omega)
      subst this
      have := q3 (by omega)
      subst this
      clear q1 q2 q3
      rw [show ((3 : Nat) : Int) = 3 from rfl]
      go_wp2
      go_ret
      exact ⟨by simp [orI], rfl⟩
theorem cmpT_or (a b : Tk) : cmpT a b = orI (cmpI a.due b.due) (cmpI a.prio b.prio) (cmpI a.name b.name) := rfl
set_option maxHeartbeats 4000000 in
set_option maxRecDepth 100000 in
theorem agenda_compare (a b : Tk) (w : World) : Calls Tryz.prog 183 #[.agg (tc a).toArray, .agg (tc b).toArray] w fun e w' => e = .returned (.int .i64 (cmpT a b)) ∧ Below w.heap.size w w' := by
  rw [cmpT_or]
  obtain ⟨x, hx⟩ : ∃ x, x = cmpI a.due b.due := ⟨_, rfl⟩
  obtain ⟨y, hy⟩ : ∃ y, y = cmpI a.prio b.prio := ⟨_, rfl⟩
  obtain ⟨z, hz⟩ : ∃ z, z = cmpI a.name b.name := ⟨_, rfl⟩
  rw [← hx, ← hy, ← hz]
  have CX := Lib.hid (cmp_Compare a.due b.due)
  have CY := Lib.hid (cmp_Compare a.prio b.prio)
  have CZ := Lib.hid (cmp_Compare a.name b.name)
  rw [← hx] at CX
  rw [← hy] at CY
  rw [← hz] at CZ
  clear hx hy hz
  go_enter Tryz.func183, Tryz.ntmps183
  obtain ⟨wz, hwz⟩ : ∃ wz, wz = (w.alloc (.cells (tc a).toArray 87)).alloc (.cells (tc b).toArray 87) := ⟨_, rfl⟩
  go_upto_region 1 with fail
  rw [← hwz]
  have hz0 : wz.heap[w.heap.size]? = some (.cells (tc a).toArray 87 (0, 0)) := by rw [hwz]; exact (Below.heap_alloc _ _ _ (by simp)).trans (heap_alloc_new w _)
  have hz1 : wz.heap[w.heap.size + 1]? = some (.cells (tc b).toArray 87 (0, 0)) := by
    have := heap_alloc_new (w.alloc (.cells (tc a).toArray 87)) (.cells (tc b).toArray 87)
    rw [hwz]
    simpa using this
  have hzs : wz.heap.size = w.heap.size + 2 := by rw [hwz]; simp
  have hzB : Below w.heap.size w wz := by rw [hwz]; exact ((Below.refl _ _).alloc (Nat.le_refl _) _).alloc (by simp) _
  have A0 : wz.cell? ⟨w.heap.size, 0, none⟩ = some (.int .i64 a.name) := by rw [World.cell?, hz0]; rfl
  have A1 : wz.cell? ⟨w.heap.size, 1, none⟩ = some (.int .i64 a.due) := by rw [World.cell?, hz0]; rfl
  have A2 : wz.cell? ⟨w.heap.size, 2, none⟩ = some (.int .i64 a.prio) := by rw [World.cell?, hz0]; rfl
  have B0 : wz.cell? ⟨w.heap.size + 1, 0, none⟩ = some (.int .i64 b.name) := by rw [World.cell?, hz1]; rfl
  have B1 : wz.cell? ⟨w.heap.size + 1, 1, none⟩ = some (.int .i64 b.due) := by rw [World.cell?, hz1]; rfl
  have B2 : wz.cell? ⟨w.heap.size + 1, 2, none⟩ = some (.int .i64 b.prio) := by rw [World.cell?, hz1]; rfl
  have LA : ∀ k v w', wz.cell? ⟨w.heap.size, k, none⟩ = some v → Later wz.drew w' → w'.cell? ⟨w.heap.size, k, none⟩ = some v := fun k v w' h hL => (hL.cell (p := ⟨w.heap.size, k, none⟩) (by show w.heap.size < wz.heap.size; omega)).trans h
  have LB : ∀ k v w', wz.cell? ⟨w.heap.size + 1, k, none⟩ = some v → Later wz.drew w' → w'.cell? ⟨w.heap.size + 1, k, none⟩ = some v := fun k v w' h hL => (hL.cell (p := ⟨w.heap.size + 1, k, none⟩) (by show w.heap.size + 1 < wz.heap.size; omega)).trans h
  have HZB := Lib.hid hzB
  have LA0 := fun w' hL => LA 0 _ w' A0 hL
  have LA1 := fun w' hL => LA 1 _ w' A1 hL
  have LA2 := fun w' hL => LA 2 _ w' A2 hL
  have LB0 := fun w' hL => LB 0 _ w' B0 hL
  have LB1 := fun w' hL => LB 1 _ w' B1 hL
  have LB2 := fun w' hL => LB 2 _ w' B2 hL
  clear hz0 hz1 hzB hwz A0 A1 A2 B0 B1 B2 LA LB
  refine wp_region_plan_lit (L := Later) 22 [.pure, .pure, .pure, .pure, .pin (.int .i64 x), .pure, .pure, .pure, .pure, .pin (.int .i64 y), .pure, .pure, .pure, .pure, .pin (.int .i64 z), .any (fun w v => Three w v x y z), .pin (.int .i64 (orI x y z)), .pure] (by kernel_rfl) (by kernel_rfl) rfl (fun w => Below.refl _ w) Later.tr ⟨fun w w' v hL hR => Three.later hR hL, trivial⟩ ?_
  iterate 4
    first
    | (refine wm_skip (by rfl) (fun K hK => ?_))
    | (refine wm_move (by rfl) (.inl rfl) (fun K hK => ?_))
    | (refine wm_move (by rfl) (.inr rfl) (fun K hK => ?_))
    | (refine wm_run (by rfl) (fun K hK => ?_)
       apply Exists.intro
       apply And.intro
       · intro w hL
         simp [go_sem, (LA1 w hL), (LB1 w hL)]
         rfl)
    simp only [Act.put, Act.eval, List.setIfInBounds_toArray, List.set_cons_succ, List.set_cons_zero]
    refine hK _ ?_
    clear hK K
  refine wm_pin (fun K hK => ⟨fun w' hL hk => ?_, ?_⟩)
  · go_wp2_with (first | (go_at_call 175; refine (CX.out _).mono ?_; rintro e wn ⟨rfl, rfl⟩) | fail)
    exact qr_pin rfl rfl rfl (Below.refl _ _)
  simp only [Act.put, Act.eval, List.setIfInBounds_toArray, List.set_cons_succ, List.set_cons_zero]
  refine hK _ ?_
  clear hK K
  iterate 4
    first
    | (refine wm_skip (by rfl) (fun K hK => ?_))
    | (refine wm_move (by rfl) (.inl rfl) (fun K hK => ?_))
    | (refine wm_move (by rfl) (.inr rfl) (fun K hK => ?_))
    | (refine wm_run (by rfl) (fun K hK => ?_)
       apply Exists.intro
       apply And.intro
       · intro w hL
         simp [go_sem, (LA2 w hL), (LB2 w hL)]
         rfl)
    simp only [Act.put, Act.eval, List.setIfInBounds_toArray, List.set_cons_succ, List.set_cons_zero]
    refine hK _ ?_
    clear hK K
  refine wm_pin (fun K hK => ⟨fun w' hL hk => ?_, ?_⟩)
  · go_wp2_with (first | (go_at_call 175; refine (CY.out _).mono ?_; rintro e wn ⟨rfl, rfl⟩) | fail)
    exact qr_pin rfl rfl rfl (Below.refl _ _)
  simp only [Act.put, Act.eval, List.setIfInBounds_toArray, List.set_cons_succ, List.set_cons_zero]
  refine hK _ ?_
  clear hK K
  iterate 4
    first
    | (refine wm_skip (by rfl) (fun K hK => ?_))
    | (refine wm_move (by rfl) (.inl rfl) (fun K hK => ?_))
    | (refine wm_move (by rfl) (.inr rfl) (fun K hK => ?_))
    | (refine wm_run (by rfl) (fun K hK => ?_)
       apply Exists.intro
       apply And.intro
       · intro w hL
         simp [go_sem, (LA0 w hL), (LB0 w hL)]
         rfl)
    simp only [Act.put, Act.eval, List.setIfInBounds_toArray, List.set_cons_succ, List.set_cons_zero]
    refine hK _ ?_
    clear hK K
  refine wm_pin (fun K hK => ⟨fun w' hL hk => ?_, ?_⟩)
  · go_wp2_with (first | (go_at_call 175; refine (CZ.out _).mono ?_; rintro e wn ⟨rfl, rfl⟩) | fail)
    exact qr_pin rfl rfl rfl (Below.refl _ _)
  simp only [Act.put, Act.eval, List.setIfInBounds_toArray, List.set_cons_succ, List.set_cons_zero]
  refine hK _ ?_
  clear hK K
  refine wm_any (fun K hK => ⟨fun w' hL hk => ?_, fun v20 => ?_⟩)
  · go_wp2_with (fail)
    exact qr_any rfl rfl rfl (Below.alloc (Below.refl _ _) (Nat.le_refl _) _) (Three.new _ _ _ _ _)
  simp only [Act.put, Act.eval, List.setIfInBounds_toArray, List.set_cons_succ, List.set_cons_zero]
  refine hK _ ?_
  clear hK K
  refine wm_pin (fun K hK => ⟨fun w' hL hk => ?_, ?_⟩)
  · have h20 : Three w' v20 x y z := hk.get 20 15 (by kernel_rfl) rfl
    go_wp2_with (first | (go_at_call 227; refine (cmp_Or _ _ _ _ _ h20).mono ?_; rintro e wn ⟨rfl, rfl⟩) | fail)
    exact qr_pin rfl rfl rfl (Below.refl _ _)
  simp only [Act.put, Act.eval, List.setIfInBounds_toArray, List.set_cons_succ, List.set_cons_zero]
  refine hK _ ?_
  clear hK K
  iterate 1
    first
    | (refine wm_skip (by rfl) (fun K hK => ?_))
    | (refine wm_move (by rfl) (.inl rfl) (fun K hK => ?_))
    | (refine wm_move (by rfl) (.inr rfl) (fun K hK => ?_))
    | (refine wm_run (by rfl) (fun K hK => ?_)
       apply Exists.intro
       apply And.intro
       · intro w hL
         simp [go_sem]
         rfl)
    simp only [Act.put, Act.eval, List.setIfInBounds_toArray, List.set_cons_succ, List.set_cons_zero]
    refine hK _ ?_
    clear hK K
  refine wm_end (fun w' hL hk => ?_)
  clear hk
  go_wp2
  go_ret
  exact ⟨rfl, HZB.out.trans ((Below.refl _ _).drew.trans (hL.mono (by show w.heap.size ≤ wz.heap.size; omega)))⟩
end Go.Proofs.YteioacpfphigjaaGreatDoor
end

section
namespace Go.Proofs.YteioacpfphigjaaGreatDoor
open Go.RowKit
set_option linter.unusedVariables false
set_option linter.unusedSimpArgs false

/-- Where a search ends. -/
def Found (ts : List Tk) (t : Tk) (i : Nat) : Prop := i ≤ ts.length ∧ (∀ h : 0 < i ∧ i ≤ ts.length, cmpT (ts[i - 1]'(by omega)) t < 0) ∧ ∀ h : i < ts.length, 0 ≤ cmpT ts[i] t
/-- While it goes on. -/
structure Mid (ts : List Tk) (t : Tk) (i j : Nat) : Prop where
  le : i ≤ j
  top : j ≤ ts.length
  lo : ∀ h : 0 < i ∧ i ≤ ts.length, cmpT (ts[i - 1]'(by omega)) t < 0
  hi : ∀ h : j < ts.length, 0 ≤ cmpT ts[j] t
/-- What it has at hand. -/
structure SH (v : Value) (ts : List Tk) (t : Tk) (bx : Nat) (w0 w : World) : Prop where
  rd : RdT w v ts
  box : w.heap[bx]? = some (.cells (tc t).toArray 87 (0, 0))
  lt : bx < w.heap.size
  old : Below w0.heap.size w0 w
theorem SH.on {v : Value} {ts : List Tk} {t : Tk} {bx : Nat} {w0 w w' : World} (h : SH v ts t bx w0 w) (hb : Below w.heap.size w w') : SH v ts t bx w0 w' :=
  ⟨h.rd.below hb, (hb.block bx h.lt).trans h.box, Nat.lt_of_lt_of_le h.lt hb.size, h.old.trans (hb.mono h.old.size)⟩
theorem rangeAt_box {w : World} {b : Nat} {t : Tk} (h : w.heap[b]? = some (.cells (tc t).toArray 87 (0, 0))) : w.rangeAt b 0 (tc t) := fun j u hj => by
  rw [Nat.zero_add, World.cell?, h]; simpa using hj

set_option maxHeartbeats 8000000 in
set_option maxRecDepth 100000 in
theorem search_ts (v : Value) (ts : List Tk) (t : Tk) (w : World) (hr : RdT w v ts) (hl : ts.length ≤ 900) :
    Calls Tryz.prog 182 #[v, .agg (tc t).toArray, .func (.func 183) #[] #[]] w fun e w' => ∃ i b, e = .returned (.tuple #[.int .i64 (i : Nat), .bool b]) ∧ Found ts t i ∧ Below w.heap.size w w' := by
  obtain ⟨ao, cap, rfl⟩ := hr.lenOf
  obtain ⟨n, hn⟩ : ∃ n, n = ts.length := ⟨_, rfl⟩
  obtain ⟨wz, hwz⟩ : ∃ wz, wz = w.alloc (.cells (tc t).toArray 87) := ⟨_, rfl⟩
  have hS : SH (.slice ao n cap) ts t w.heap.size w wz := by
    rw [hn, hwz]
    exact ⟨hr.below ((Below.refl _ _).alloc (Nat.le_refl _) _), heap_alloc_new w _, by simp, (Below.refl _ _).alloc (Nat.le_refl _) _⟩
  rw [← hn]
  obtain ⟨bx, hbx⟩ : ∃ bx, bx = w.heap.size := ⟨_, rfl⟩
  rw [← hbx] at hS
  have HS := Lib.hid hS
  have HN := Lib.hid hn
  have hn9 : (n : Int) ≤ 900 := by omega
  clear hS hr hl hn
  go_enter Tryz.func182, Tryz.ntmps182
  go_upto_region 3 with fail
  rw [← hwz, ← hbx]
  clear hwz
  go_loopw [9, 10] (fun a b wr => ∃ i j : Nat, a = .int .i64 i ∧ b = .int .i64 j ∧ Mid ts t i j ∧ SH (.slice ao n cap) ts t bx w wr) (fun a b _ => (intOf b).toNat - (intOf a).toNat)
  case atStart => exact ⟨0, n, rfl, rfl, ⟨by omega, by rw [HN.out]; omega, by omega, fun h => by have := HN.out; omega⟩, HS.out⟩
  case round =>
    obtain ⟨i, j, rfl, rfl, hm, hs⟩ := hrel
    have hji := hm.le
    have hjn := hm.top
    rw [← HN.out] at hjn
    by_cases hlt : i < j
    · have hlt' : (i : Int) < j := by omega
      obtain ⟨h, hh⟩ : ∃ h, h = (i + j) / 2 := ⟨_, rfl⟩
      obtain ⟨s, hs2⟩ : ∃ s, s = i + j := ⟨_, rfl⟩
      have hhn : h < n := by omega
      have hhn' : (h : Int) < n := by omega
      have hhl : h < ts.length := by rw [← HN.out]; exact hhn
      have hih : i ≤ h := by omega
      have hhj : h < j := by omega
      have D1 : (s : Int) / 2 = (h : Int) := by omega
      have D2 : (s : Int) % 18446744073709551616 = (s : Int) := by omega
      obtain ⟨u, hu⟩ : ∃ u, u = ts[h] := ⟨_, rfl⟩
      obtain ⟨rb, off, rfl, hrng, hrb⟩ := hs.rd.at hhl
      rw [← hu] at hrng
      obtain ⟨c, hcc⟩ : ∃ c, c = cmpT u t := ⟨_, rfl⟩
      have hmid1 : c < 0 → Mid ts t (h + 1) j := fun h0 => ⟨by omega, by rw [← HN.out]; omega, fun hx => by simp only [Nat.add_sub_cancel]; rw [← hu, ← hcc]; exact h0, hm.hi⟩
      have hmid2 : ¬ c < 0 → Mid ts t i h := fun h0 => ⟨hih, by omega, hm.lo, fun hx => by rw [← hu, ← hcc]; omega⟩
      have HM1 := Lib.hid hmid1
      have HM2 := Lib.hid hmid2
      have HSR := Lib.hid hs
      have HR := Lib.hid hrng
      have HCC := Lib.hid hcc
      have hW : IntKind.i64.wrap ((i : Int) + (j : Int)) = (s : Int) := by rw [IntWalk.i64_in _ (by omega)]; omega
      clear hm hs hrng hmid1 hmid2 hcc hu hs2 hh hhl
      go_upto_region 5 with fail
      refine wp_region_plan_lit (L := Later) 49 [.pure, .pure, .pure, .pure, .pin (.agg (tc u).toArray), .pin (.agg (tc t).toArray), .pin (.int .i64 c), .pure] (by kernel_rfl) (by kernel_rfl) rfl (fun w => Below.refl _ w) Later.tr trivial ?_
      iterate 4
        first
        | (refine wm_skip (by rfl) (fun K hK => ?_))
        | (refine wm_move (by rfl) (.inl rfl) (fun K hK => ?_))
        | (refine wm_move (by rfl) (.inr rfl) (fun K hK => ?_))
        | (refine wm_run (by rfl) (fun K hK => ?_)
           apply Exists.intro
           apply And.intro
           · intro w hL
             simp [go_sem, hhn]
             rfl)
        simp only [Act.put, Act.eval, List.setIfInBounds_toArray, List.set_cons_succ, List.set_cons_zero]
        refine hK _ ?_
        clear hK K
      refine wm_pin (fun K hK => ⟨fun w' hL hk => ?_, ?_⟩)
      · have hs' := HSR.out.on ((Below.refl _ wr).drew.trans (hL.mono (Nat.le_refl _)))
        have hr' := rangeAt_of_block HR.out (hL.block rb hrb)
        go_wp2_with (first | (refine wpl_loadT _ rfl rfl rfl hr' ?_) | fail)
        exact qr_pin rfl rfl rfl (Below.refl _ _)
      simp only [Act.put, Act.eval, List.setIfInBounds_toArray, List.set_cons_succ, List.set_cons_zero]
      refine hK _ ?_
      clear hK K
      refine wm_pin (fun K hK => ⟨fun w' hL hk => ?_, ?_⟩)
      · have hs' := HSR.out.on ((Below.refl _ wr).drew.trans (hL.mono (Nat.le_refl _)))
        go_wp2_with (first | (refine wpl_loadT _ rfl rfl rfl (rangeAt_box hs'.box) ?_) | fail)
        exact qr_pin rfl rfl rfl (Below.refl _ _)
      simp only [Act.put, Act.eval, List.setIfInBounds_toArray, List.set_cons_succ, List.set_cons_zero]
      refine hK _ ?_
      clear hK K
      refine wm_pin (fun K hK => ⟨fun w' hL hk => ?_, ?_⟩)
      · go_wp2_with (first | (go_at_call 183; refine (agenda_compare u t _).mono ?_; rw [← HCC.out]; rintro e wn ⟨rfl, hbn⟩) | fail)
        exact qr_pin rfl rfl rfl hbn
      simp only [Act.put, Act.eval, List.setIfInBounds_toArray, List.set_cons_succ, List.set_cons_zero]
      refine hK _ ?_
      clear hK K
      iterate 1
        first
        | (refine wm_skip (by rfl) (fun K hK => ?_))
        | (refine wm_move (by rfl) (.inl rfl) (fun K hK => ?_))
        | (refine wm_move (by rfl) (.inr rfl) (fun K hK => ?_))
        | (refine wm_run (by rfl) (fun K hK => ?_)
           apply Exists.intro
           apply And.intro
           · intro w hL
             simp [go_sem]
             rfl)
        simp only [Act.put, Act.eval, List.setIfInBounds_toArray, List.set_cons_succ, List.set_cons_zero]
        refine hK _ ?_
        clear hK K
      refine wm_end (fun w' hL hk => ?_)
      clear hk
      have hs1 := Lib.hid (HSR.out.on ((Below.refl _ wr).drew.trans (hL.mono (Nat.le_refl _))))
      by_cases h0 : c < 0
      · have hm1 := Lib.hid (HM1.out h0)
        go_wp2
        exact ⟨⟨h + 1, j, by go_num, rfl, hm1.out, hs1.out⟩, by simp [intOf]; omega⟩
      · have hm1 := Lib.hid (HM2.out h0)
        go_wp2
        exact ⟨⟨i, h, rfl, rfl, hm1.out, hs1.out⟩, by simp [intOf]; omega⟩
    · have hij : i = j := by omega
      subst hij
      have hF : Found ts t i := ⟨by have := hm.top; omega, hm.lo, hm.hi⟩
      have HF := Lib.hid hF
      have HSR := Lib.hid hs
      clear hF hm hlt
      by_cases hin : i < n
      · have hin' : (i : Int) < n := by omega
        have hhl : i < ts.length := by rw [← HN.out]; exact hin
        obtain ⟨u, hu⟩ : ∃ u, u = ts[i] := ⟨_, rfl⟩
        obtain ⟨rb, off, rfl, hrng, hrb⟩ := hs.rd.at hhl
        rw [← hu] at hrng
        obtain ⟨c, hcc⟩ : ∃ c, c = cmpT u t := ⟨_, rfl⟩
        have HR := Lib.hid hrng
        have HCC := Lib.hid hcc
        clear hs hrng hcc hu hhl hji
        go_upto_region 8 with fail
        refine wp_region_plan_lit (L := Later) 49 [.pure, .pure, .pure, .pure, .pure, .pure, .pure, .pure, .pure, .pin (.agg (tc u).toArray), .pin (.agg (tc t).toArray), .pin (.int .i64 c), .pure, .pure, .pure, .pure] (by kernel_rfl) (by kernel_rfl) rfl (fun w => Below.refl _ w) Later.tr trivial ?_
        iterate 9
          first
          | (refine wm_skip (by rfl) (fun K hK => ?_))
          | (refine wm_move (by rfl) (.inl rfl) (fun K hK => ?_))
          | (refine wm_move (by rfl) (.inr rfl) (fun K hK => ?_))
          | (refine wm_run (by rfl) (fun K hK => ?_)
             apply Exists.intro
             apply And.intro
             · intro w hL
               simp [go_sem, hin]
               rfl)
          simp only [Act.put, Act.eval, List.setIfInBounds_toArray, List.set_cons_succ, List.set_cons_zero]
          refine hK _ ?_
          clear hK K
        refine wm_pin (fun K hK => ⟨fun w' hL hk => ?_, ?_⟩)
        · have hs' := HSR.out.on ((Below.refl _ wr).drew.trans (hL.mono (Nat.le_refl _)))
          have hr' := rangeAt_of_block HR.out (hL.block rb hrb)
          go_wp2_with (first | (refine wpl_loadT_g _ (by rfl) rfl rfl hr' ?_) | fail)
          exact qr_pin rfl rfl rfl (Below.refl _ _)
        simp only [Act.put, Act.eval, List.setIfInBounds_toArray, List.set_cons_succ, List.set_cons_zero]
        refine hK _ ?_
        clear hK K
        refine wm_pin (fun K hK => ⟨fun w' hL hk => ?_, ?_⟩)
        · have hs' := HSR.out.on ((Below.refl _ wr).drew.trans (hL.mono (Nat.le_refl _)))
          go_wp2_with (first | (refine wpl_loadT_g _ (by rfl) rfl rfl (rangeAt_box hs'.box) ?_) | fail)
          exact qr_pin rfl rfl rfl (Below.refl _ _)
        simp only [Act.put, Act.eval, List.setIfInBounds_toArray, List.set_cons_succ, List.set_cons_zero]
        refine hK _ ?_
        clear hK K
        refine wm_pin (fun K hK => ⟨fun w' hL hk => ?_, ?_⟩)
        · go_wp2_with (first | (go_at_call 183; refine (agenda_compare u t _).mono ?_; rw [← HCC.out]; rintro e wn ⟨rfl, hbn⟩) | fail)
          exact qr_pin rfl rfl rfl hbn
        simp only [Act.put, Act.eval, List.setIfInBounds_toArray, List.set_cons_succ, List.set_cons_zero]
        refine hK _ ?_
        clear hK K
        iterate 4
          first
          | (refine wm_skip (by rfl) (fun K hK => ?_))
          | (refine wm_move (by rfl) (.inl rfl) (fun K hK => ?_))
          | (refine wm_move (by rfl) (.inr rfl) (fun K hK => ?_))
          | (refine wm_run (by rfl) (fun K hK => ?_)
             apply Exists.intro
             apply And.intro
             · intro w hL
               simp [go_sem]
               rfl)
          simp only [Act.put, Act.eval, List.setIfInBounds_toArray, List.set_cons_succ, List.set_cons_zero]
          refine hK _ ?_
          clear hK K
        refine wm_end (fun w' hL hk => ?_)
        clear hk
        have hs1 := Lib.hid (HSR.out.on ((Below.refl _ wr).drew.trans (hL.mono (Nat.le_refl _))))
        go_wp2
        refine bodyPost_ret (v := .tuple #[.int .i64 (i : Nat), .bool (c == 0)]) (by simp [results, Tryz.results182, go_sem]) rfl ⟨i, _, rfl, HF.out, hs1.out.old⟩
      · have hin2 : ((i : Int) < (n : Int)) = False := by simp; omega
        clear hs hji hin
        go_upto_region 8 with fail
        refine wp_region_plan_lit (L := Later) 49 [.pure, .pure, .pure, .pure, .pure, .pure, .pure, .pure, .pure, .pure, .pure, .pure, .pure, .pure, .pure, .pure] (by kernel_rfl) (by kernel_rfl) rfl (fun w => Below.refl _ w) Later.tr trivial ?_
        iterate 16
          first
          | (refine wm_skip (by rfl) (fun K hK => ?_))
          | (refine wm_move (by rfl) (.inl rfl) (fun K hK => ?_))
          | (refine wm_move (by rfl) (.inr rfl) (fun K hK => ?_))
          | (refine wm_run (by rfl) (fun K hK => ?_)
             apply Exists.intro
             apply And.intro
             · intro w hL
               simp [go_sem, hin2]
               rfl)
          simp only [Act.put, Act.eval, List.setIfInBounds_toArray, List.set_cons_succ, List.set_cons_zero]
          refine hK _ ?_
          clear hK K
        refine wm_end (fun w' hL hk => ?_)
        clear hk
        have hs1 := Lib.hid (HSR.out.on ((Below.refl _ wr).drew.trans (hL.mono (Nat.le_refl _))))
        go_wp2
        refine bodyPost_ret (v := .tuple #[.int .i64 (i : Nat), .bool false]) (by simp [results, Tryz.results182, go_sem]) rfl ⟨i, _, rfl, HF.out, hs1.out.old⟩
end Go.Proofs.YteioacpfphigjaaGreatDoor
end

section
namespace Go.Proofs.YteioacpfphigjaaGreatDoor
open Go.RowKit Go.Shelf
attribute [local go_sem] Oper.semAt_some
set_option linter.unusedVariables false
set_option linter.unusedSimpArgs false

theorem zeroTA : ∃ zc : Array Value, ((Tryz.prog.info? 87).bind (·.zero)) = some (.agg zc) ∧ zc.size = 36 := by
  refine ⟨(Array.replicate 36 undef |>.mapIdx fun i _ => if i < 3 then Value.int .i64 0 else if i < 35 then .int .u8 0 else .int .i64 0), ?_, by decide +kernel⟩
  kernel_rfl
section
variable {F : Fence} {nF : Nat} {w : World} {ops : Array Oper} {rest : List Oper} {o : Oper} {a : Act} {Q : Exit → Act → World → Prop}
theorem wplIn_loadT {b k : Nat} {t : Tk} (x : Operand) (hgd : o.guard = none) (ho : o.op = .load 87 x) (hx : a.eval x = .pointer (some ⟨b, k, none⟩)) (hr : w.rangeAt b k (tc t))
    (h : wpListIn F nF Tryz.prog ops Q rest (a.put o.dst (.agg (tc t).toArray)) w) : wpListIn F nF Tryz.prog ops Q (o :: rest) a w := by
  refine wpListIn_plain hgd fun K hK => ?_
  unfold Oper.wpIn
  refine ⟨by simp [Oper.about, ho], ?_⟩
  rw [Oper.semAt_plain F _ _ (by rw [ho]; intro c hc'; cases hc')]
  unfold execOp
  simp only [ho, hx, Sem.run_bind, Sem.run_pure, run_loadAt_mid w b k 87 (tc t) _ hr Tryz.underlying87 rfl (by rw [tc_len]; exact sizeT), Result.andThen_ok]
  exact hK _ _ h
/-- A new task's place. -/
theorem wplIn_allocT (hgd : o.guard = none) (ho : o.op = .alloc 87)
    (h : ∀ C : Array Value, C.size = 36 → wpListIn F nF Tryz.prog ops Q rest (a.put o.dst (.pointer (some ⟨w.heap.size, 0, none⟩))) (w.alloc (.cells C 87))) : wpListIn F nF Tryz.prog ops Q (o :: rest) a w := by
  obtain ⟨zc, hz, hzs⟩ := zeroTA
  obtain ⟨i0, hi, hz0⟩ := Option.bind_eq_some_iff.1 hz
  refine wpListIn_plain hgd fun K hK => ?_
  unfold Oper.wpIn
  refine ⟨by simp [Oper.about, ho], ?_⟩
  rw [Oper.semAt_plain F _ _ (by rw [ho]; intro c hc'; cases hc')]
  have := h zc hzs
  unfold execOp
  simp [ho, Instr.alloc, zeroValue, typeInfo, hi, hz0, newVar, newRow, Value.cells, go_sem]
  exact hK _ _ this
theorem wplIn_storeT {b : Nat} {t : Tk} {C : Array Value} (x y : Operand) (hgd : o.guard = none) (ho : o.op = .store 87 x y) (hx : a.eval x = .pointer (some ⟨b, 0, none⟩)) (hy : a.eval y = .agg (tc t).toArray) (hh : w.heap[b]? = some (.cells C 87 (0, 0))) (hC : C.size = 36)
    (h : wpListIn F nF Tryz.prog ops Q rest (a.put o.dst undef) (w.setRow b (tc t).toArray)) : wpListIn F nF Tryz.prog ops Q (o :: rest) a w := by
  refine wpListIn_plain hgd fun K hK => ?_
  unfold Oper.wpIn
  refine ⟨by simp [Oper.about, ho], ?_⟩
  rw [Oper.semAt_plain F _ _ (by rw [ho]; intro c hc'; cases hc')]
  unfold execOp
  have hr : (Instr.storeAt 87 (.pointer (some ⟨b, 0, none⟩)) (.agg (tc t).toArray)).run Tryz.prog w = .ok () (w.setRow b (tc t).toArray) := by
    simp only [Instr.storeAt, Instr.sureAddr, Sem.run_bind, Sem.run_pure, Result.andThen_ok, run_storeVar_row w b 87 87 C (tc t).toArray hh (by rw [List.size_toArray, tc_len]; exact sizeT) (by simp [tc_len, hC]) (by rw [Array.all_eq_true_iff_forall_mem]; intro u hu; exact tc_one t u (by simpa using hu))]
  simp only [ho, hx, hy, Sem.run_bind, Sem.run_pure, hr, Result.andThen_ok]
  exact hK _ _ h
end

/-- The agenda's memory: its struct, its row. -/
structure AgA (B : Nat) (g : Nat) (v : Value) (ts : List Tk) (w : World) : Prop where
  at_ : w.heap[g]? = some (.cells #[v] 195 (0, 0))
  own : OwnT B v ts w
  ne : v.ownBlock ≠ some g
  lo : B ≤ g
theorem OwnT.block {B : Nat} {v : Value} {ts : List Tk} {w : World} (h : OwnT B v ts w) {k : Nat} (hk : v.ownBlock = some k) : B ≤ k ∧ k < w.heap.size := World.ownsRow.lt h k hk
theorem rangeAt_lt' {w : World} {b o : Nat} {t : Tk} (h : w.rangeAt b o (tc t)) : b < w.heap.size := rangeAt_lt h (fun e => by have := tc_len t; rw [e] at this; simp at this)
theorem pre_snocT {pre rest xs : List Tk} {x : Tk} (h : xs = pre ++ (x :: rest)) : (pre ++ [x]) <+: xs := ⟨rest, by rw [h]; simp⟩

set_option maxHeartbeats 4000000 in
set_option maxRecDepth 100000 in
theorem all_iter (n : Nat) (bx g : Nat) (v : Value) (ts : List Tk) (w : World) (hbx : w.cell? ⟨bx, 0, none⟩ = some (.pointer (some ⟨g, 0, none⟩))) (hg : w.heap[g]? = some (.cells #[v] 195 (0, 0))) (hr : RdT w v ts) (hl : ts.length ≤ 900)
    (G : FP) (hGb : G bx) (hGg : G g) (hGv : ∀ a n c, v = .slice (some a) n c → ts ≠ [] → G a.block) :
    IterF Tryz.prog n 168 #[.pointer (some ⟨bx, 0, none⟩)] (fun t : Tk => #[.agg (tc t).toArray]) ts G w := by
  intro lp B Ψ J Jx Φ0 W hgw hG hΨ hJ hJx hround h0
  have hc1 : W.cell? ⟨bx, 0, none⟩ = some (.pointer (some ⟨g, 0, none⟩)) := (World.cell?_of_block (hG bx hGb).2).trans hbx
  have hc2 : W.cell? ⟨g, 0, none⟩ = some v := by rw [World.cell?, (hG g hGg).2, hg]; rfl
  have hrW : RdT W v ts := by
    rcases hr with h | ⟨b, off, cap, rfl, h2, h3⟩
    · exact .inl h
    · refine .inr ⟨b, off, cap, rfl, h2, ?_⟩
      by_cases hc : ts = []
      · subst hc; intro j u hj; simp [Tc] at hj
      · exact rangeAt_of_block h3 (hG b (hGv _ _ _ rfl hc)).2
  obtain ⟨hs1, hs2, hs3⟩ := hJ _ _ _ h0
  refine callsIn_of_wp Tryz.func168 rfl trivial ?_ rfl
  simp only [Tryz.ntmps168, List.size_toArray, List.length_cons, List.length_nil, Nat.reduceAdd, Nat.reduceSub, Array.replicate_succ, Array.replicate_zero, List.push_toArray, List.append_toArray, List.nil_append, List.cons_append]
  have HR := Lib.hid hrW
  have HL := Lib.hid hl
  have HRD := Lib.hid hround
  have HJ := Lib.hid hJ
  have HP := Lib.hid hΨ
  have HH0 := Lib.hid h0
  have HS3 := Lib.hid hs3
  have HS1 := Lib.hid hs1
  clear hr hrW hround hJ hJx hG hΨ hbx hg hGv hl h0 hs1 hs3
  gi_wp2_with (first | (gi_at_call 169; refine (callsIn_wide.2 (clone_ts _ _ _ HR.out HL.out)).mono ?_; rintro e wc ⟨vc, rfl, hoc, hbc⟩; obtain ⟨co, ccap, rfl⟩ := hoc.reads.lenOf) | (refine ⟨trivial, ?_⟩; gi_at_call 169; refine (callsIn_wide.2 (clone_ts _ _ _ HR.out HL.out)).mono ?_; rintro e wc ⟨vc, rfl, hoc, hbc⟩; obtain ⟨co, ccap, rfl⟩ := hoc.reads.lenOf) | fail)
  have hcs := hbc.size
  have hCR := hoc.reads
  have hkeep : ∀ wr, Only Ψ Φ0 wc wr → RdT wr (.slice co ts.length ccap) ts := fun wr ho => by
    rcases hCR with h | ⟨b, off, cap', hv, h2, h3⟩
    · exact .inl h
    · refine .inr ⟨b, off, cap', hv, h2, ?_⟩
      by_cases hc : ts = []
      · subst hc; intro j u hj; simp [Tc] at hj
      · have hne : Tc ts ≠ [] := by
          intro e
          have := Tc_len ts
          rw [e] at this
          have h0 := List.length_pos_iff.2 hc
          simp at this
          omega
        have hlt := rangeAt_lt h3 hne
        have hge : W.heap.size ≤ b := by
          have hob : (Value.slice co ts.length ccap).ownBlock = some b := by rw [hv]; rfl
          exact (OwnT.block hoc hob).1
        exact rangeAt_of_block h3 (ho.block b hlt (fun h => by have := HP.out b h; omega) (fun h => by have := (HS1.out b h).2; omega))
  have HK := Lib.hid hkeep
  have HO1 := Lib.hid (Only.of_later (Ψ := Ψ) (Φ := Φ0) hbc)
  have hJc : J [] Φ0 wc := HS3.out wc (Grow.of_below hbc) (fun k hk => hbc.block k (hk.elim (fun h => by omega) (fun h => (HS1.out k h).2)))
  have HJC := Lib.hid hJc
  have hbig : (ts.length : Int) ≤ 900 := by have := HL.out; omega
  clear hCR hkeep hJc hoc hbc hc1 hc2
  gi_loopw [13] (fun r wr => ∃ (k : Nat) (Φ : FP), k ≤ ts.length ∧ r = .int .i64 k ∧ J (ts.take k) Φ wr ∧ Only Ψ Φ0 wc wr ∧ (∀ j, Φ j → Φ0 j ∨ wc.heap.size ≤ j)) (fun r wr => ts.length - (intOf r).toNat)
  case atStart => exact ⟨0, Φ0, Nat.zero_le _, rfl, HJC.out, Only.refl _ _ _, fun j h => .inl h⟩
  case round =>
    obtain ⟨k, Φ, hk, rfl, hJ2, ho2, hn2⟩ := hrel
    by_cases hlt : k < ts.length
    · have hlt' : (k : Int) < ts.length := by omega
      obtain ⟨t, ht⟩ : ∃ t, t = ts[k] := ⟨_, rfl⟩
      obtain ⟨b, off, rfl, hrng, hrb⟩ := (HK.out wr ho2).at hlt
      rw [← ht] at hrng
      have htk : ts.take (k + 1) = ts.take k ++ [t] := by rw [List.take_succ_eq_append_getElem hlt, ht]
      have hpre : (ts.take k ++ [t]) <+: ts := by rw [← htk]; exact List.take_prefix _ _
      obtain ⟨q1, q2, q3⟩ := HJ.out _ _ _ hJ2
      have hW1 : ∀ C W1, W1 = (wr.alloc (.cells C 87)).setRow wr.heap.size (tc t).toArray → Below wr.heap.size wr W1 ∧ J (ts.take k) Φ W1 ∧ W1.heap[wr.heap.size]? = some (.cells (tc t).toArray 87 (0, 0)) := fun C W1 e => by
        have hb1 : Below wr.heap.size wr W1 := by
          rw [e]
          exact ((Below.refl _ wr).alloc (Nat.le_refl _) _).trans ⟨rfl, rfl, rfl, by simp, fun k hk => setRow_other _ _ k _ (by omega)⟩
        exact ⟨hb1, q3 W1 (Grow.of_below hb1) (fun k hk => hb1.block k (hk.elim (fun h => by omega) (fun h => (q1 k h).2))), by rw [e]; exact setRow_heap _ _ _ _ _ _ (heap_alloc_new wr _)⟩
      have HW := Lib.hid hW1
      have HR2 := Lib.hid hrng
      have HT := Lib.hid htk
      have HPR := Lib.hid hpre
      have HO2 := Lib.hid ho2
      have HN2 := Lib.hid hn2
      clear hW1 hrng htk hpre q1 q2 q3 ht hJ2 ho2 hn2
      gi_wp2_with (first
        | (refine wplIn_loadT _ rfl rfl rfl HR2.out ?_)
        | (refine wplIn_allocT rfl rfl ?_; intro C hC)
        | (refine wplIn_storeT (t := t) (C := C) _ _ rfl rfl rfl rfl (heap_alloc_new wr _) hC ?_; obtain ⟨W1, hW1⟩ : ∃ W1, W1 = (wr.alloc (.cells C 87)).setRow wr.heap.size (tc t).toArray := ⟨_, rfl⟩; rw [← hW1]; obtain ⟨hb1, hJ1, hc1⟩ := HW.out C W1 hW1; obtain ⟨fn, tm, asg, bd, hy, hR⟩ := HRD.out (ts.take k) t Φ W1 HPR.out hJ1; dsimp only at hy; have HC1 := Lib.hid (rangeAt_box hc1); have HB1 := Lib.hid hb1; clear hW1 hb1 hJ1 hc1)
        | (refine wplIn_loadT _ rfl rfl rfl HC1.out ?_)
        | fail)
      refine hR.mono ?_
      rintro e W' ⟨Φ', hn', ho', (⟨rfl, hJ'⟩ | ⟨rfl, hJ'⟩)⟩
      · have ho3 : Only Ψ Φ0 wc W' := (HO2.out.trans (Φ' := Φ0) (Only.of_later HB1.out) (fun j h => .inl h)).trans ho' HN2.out
        have hn3 : ∀ j, Φ' j → Φ0 j ∨ wc.heap.size ≤ j := fun j hj => (hn' j hj).elim (HN2.out j) (fun h => .inr (by have := HO2.out.grow.size; have := HB1.out.size; omega))
        gi_wp2
        exact ⟨⟨k + 1, Φ', hlt, by go_num, by rw [HT.out]; exact hJ', ho3, hn3⟩, by simp [intOf]; omega⟩
      · have ho3 : Only Ψ Φ0 wc W' := (HO2.out.trans (Φ' := Φ0) (Only.of_later HB1.out) (fun j h => .inl h)).trans ho' HN2.out
        have hn3 : ∀ j, Φ' j → Φ0 j ∨ wc.heap.size ≤ j := fun j hj => (hn' j hj).elim (HN2.out j) (fun h => .inr (by have := HO2.out.grow.size; have := HB1.out.size; omega))
        gi_wp2
        refine bodyPost_ret (results_none rfl _ _ _) rfl ?_
        exact ⟨⟨_, rfl⟩, Φ', fun j hj => (hn3 j hj).imp id (fun h => by omega), HO1.out.trans ho3 (fun j h => .inl h), .inr ⟨_, HPR.out, hJ'⟩⟩
    · have hkn : k = ts.length := by omega
      subst hkn
      rw [List.take_length] at hJ2
      gi_wp2
      refine bodyPost_end (results_none rfl _ _ _) rfl ?_
      exact ⟨⟨_, rfl⟩, Φ, fun j hj => (hn2 j hj).imp id (fun h => by omega), HO1.out.trans ho2 (fun j h => .inl h), .inl hJ2⟩
end Go.Proofs.YteioacpfphigjaaGreatDoor
end

section
namespace Go.Proofs.YteioacpfphigjaaGreatDoor
open Go.RowKit Go.Shelf
attribute [local go_sem] Oper.semAt_some
set_option linter.unusedVariables false
set_option linter.unusedSimpArgs false

theorem enters_all : ∀ args w, (callFunc 168 args).run Tryz.prog w = .ok (.enter 168 args) w := enters_of Tryz.func168 (by kernel_rfl) rfl
/-- What All hands back. -/
theorem agenda_All (p : Value) (hp : ∃ q, p = .pointer q) (w : World) : Calls Tryz.prog 106 #[p] w fun e w' => e = .returned (.func (.func 168) #[] #[.pointer (some ⟨w.heap.size, 0, none⟩)]) ∧ w' = w.alloc (.cells #[p] 46) := by
  obtain ⟨q, rfl⟩ := hp
  go_enter Tryz.func106, Tryz.ntmps106
  go_wp2
  go_ret
  exact ⟨rfl, rfl⟩
theorem frame_eq {c : Code} {F : Fence} {n : Nat} {P : Program} {Q : Exit → Act → World → Prop} {a b : Act} {w : World} (e : a = b) (h : c.wpIn F n P Q b w) : c.wpIn F n P Q a w := e ▸ h
/-- The place of the task of a name, -1 if there is none. -/
def idxN (ts : List Tk) (name : Int) : Int := match ts.findIdx? (fun t => t.name == name) with
  | some i => (i : Int)
  | none => -1
theorem idxN_none {ts : List Tk} {name : Int} (h : ∀ t ∈ ts, t.name ≠ name) : idxN ts name = -1 := by
  unfold idxN
  have : ts.findIdx? (fun t => t.name == name) = none := by
    rw [List.findIdx?_eq_none_iff]
    intro t ht
    simpa using h t ht
  rw [this]
theorem idxN_at {ts p : List Tk} {t : Tk} {name : Int} (hp : (p ++ [t]) <+: ts) (ht : t.name = name) (h : ∀ u ∈ p, u.name ≠ name) : idxN ts name = (p.length : Int) := by
  obtain ⟨r, rfl⟩ := hp
  unfold idxN
  have h1 : p.findIdx? (fun t => t.name == name) = none := by
    rw [List.findIdx?_eq_none_iff]
    intro u hu
    simpa using h u hu
  have : (p ++ [t] ++ r).findIdx? (fun t => t.name == name) = some p.length := by
    rw [List.append_assoc, List.findIdx?_append, h1]
    simp [List.findIdx?_cons, ht]
  rw [this]
/-- What find's loop holds. -/
def FindI (N0 ib nb rb : Nat) (name : Int) (pre : List Tk) (Φ : FP) (W : World) : Prop :=
  (∀ k, ¬ Φ k) ∧ Boxed W ib 3 (.int .i64 (pre.length : Nat)) ∧ Boxed W nb 3 (.int .i64 name) ∧ Boxed W rb 3 (.int .i64 0) ∧ (∀ t ∈ pre, t.name ≠ name) ∧ N0 ≤ W.heap.size
def FindX (N0 rb : Nat) (name : Int) (c : Code) (pre : List Tk) (Φ : FP) (W : World) : Prop :=
  c = .ret ∧ (∀ k, ¬ Φ k) ∧ (∃ p t, pre = p ++ [t] ∧ t.name = name ∧ (∀ u ∈ p, u.name ≠ name) ∧ Boxed W rb 3 (.int .i64 (p.length : Nat))) ∧ N0 ≤ W.heap.size
theorem FindI.stab {N0 ib nb rb : Nat} {name : Int} (h1 : ib < N0) (h2 : nb < N0) (h3 : rb < N0) : Stab N0 (FindI N0 ib nb rb name) := by
  rintro pre Φ W ⟨a, b, c, d, e, f⟩
  exact ⟨fun k hk => absurd hk (a k), f, fun W' hg hk => ⟨a, (hk ib (.inl h1)).trans b, (hk nb (.inl h2)).trans c, (hk rb (.inl h3)).trans d, e, Nat.le_trans f hg.size⟩⟩
theorem FindX.stab {N0 rb : Nat} {name : Int} (h3 : rb < N0) (c : Code) : Stab N0 (FindX N0 rb name c) := by
  rintro pre Φ W ⟨a, b, ⟨p, t, c1, c2, c3, c4⟩, f⟩
  exact ⟨fun k hk => absurd hk (b k), f, fun W' hg hk => ⟨a, b, ⟨p, t, c1, c2, c3, (hk rb (.inl h3)).trans c4⟩, Nat.le_trans f hg.size⟩⟩

set_option maxHeartbeats 4000000 in
set_option maxRecDepth 100000 in
theorem agenda_find (g : Nat) (v : Value) (ts : List Tk) (name : Int) (w : World) (hg : w.heap[g]? = some (.cells #[v] 195 (0, 0))) (hr : RdT w v ts) (hl : ts.length ≤ 900) :
    Calls Tryz.prog 181 #[.pointer (some ⟨g, 0, none⟩), .int .i64 name] w fun e w' => e = .returned (.int .i64 (idxN ts name)) ∧ Below w.heap.size w w' := by
  refine (callsIn_wide (n := 2)).1 ?_
  have HG := Lib.hid hg
  have HR := Lib.hid hr
  have HL := Lib.hid hl
  clear hg hr hl
  refine callsIn_of_wp_marks Tryz.func181 rfl trivial ?_ rfl
  simp only [Tryz.ntmps181, List.size_toArray, List.length_cons, List.length_nil, Nat.reduceAdd, Nat.reduceSub, Array.replicate_succ, Array.replicate_zero, List.push_toArray, List.append_toArray, List.nil_append, List.cons_append]
  gi_wp2_with (first | (gi_at_call 106; refine (callsIn_wide.2 (agenda_All _ ⟨_, rfl⟩ _)).mono ?_; rintro e w1 ⟨rfl, hw1⟩) | (refine ⟨trivial, ?_⟩; gi_at_call 106; refine (callsIn_wide.2 (agenda_All _ ⟨_, rfl⟩ _)).mono ?_; rintro e w1 ⟨rfl, hw1⟩) | fail)
  rw [← hw1]
  obtain ⟨s, hs⟩ : ∃ s, s = w.heap.size := ⟨_, rfl⟩
  obtain ⟨rb, hrb⟩ : ∃ rb, rb = s + 1 := ⟨_, rfl⟩
  obtain ⟨ib, hib⟩ : ∃ ib, ib = rb + 1 := ⟨_, rfl⟩
  obtain ⟨ab, hab⟩ : ∃ ab, ab = ib + 1 := ⟨_, rfl⟩
  have hB : Below w.heap.size w w1 := by rw [hw1]; exact ((((Below.refl _ w).alloc (Nat.le_refl _) _).alloc (by simp) _).alloc (by simp; omega) _).alloc (by simp; omega) _
  have hsz : w1.heap.size = s + 4 := by rw [hw1, hs]; simp
  have x0 : Boxed w1 s 3 (.int .i64 name) := by rw [hw1, hs]; exact (((Boxed.new w _ _).alloc _).alloc _).alloc _
  have x1 : Boxed w1 rb 3 (.int .i64 0) := by
    have := Boxed.new (w.alloc (.cells #[.int .i64 name] 3)) 3 (.int .i64 0)
    rw [World.size_alloc] at this
    rw [hw1, hrb, hs]; exact (this.alloc _).alloc _
  have x2 : Boxed w1 ib 3 (.int .i64 0) := by
    have := Boxed.new ((w.alloc (.cells #[.int .i64 name] 3)).alloc (.cells #[.int .i64 0] 3)) 3 (.int .i64 0)
    rw [World.size_alloc, World.size_alloc] at this
    rw [hw1, hib, hrb, hs]; exact this.alloc _
  have x3 : Boxed w1 ab 46 (.pointer (some ⟨g, 0, none⟩)) := by
    have := Boxed.new (((w.alloc (.cells #[.int .i64 name] 3)).alloc (.cells #[.int .i64 0] 3)).alloc (.cells #[.int .i64 0] 3)) 46 (.pointer (some ⟨g, 0, none⟩))
    rw [World.size_alloc, World.size_alloc, World.size_alloc] at this
    rw [hw1, hab, hib, hrb, hs]; exact this
  rw [← hs, ← hrb, ← hib, ← hab]
  have hgl : g < w.heap.size := by
    by_cases h : g < w.heap.size
    · exact h
    · have := HG.out; rw [Array.getElem?_eq_none (by omega)] at this; cases this
  have hit := all_iter 0 ab g v ts w1 x3.cell ((hB.block g hgl).trans HG.out) (HR.out.below hB) HL.out (fun k => k < w1.heap.size) (by omega) (by omega) (fun a n c e hne => by
    have hr := HR.out.below hB
    rcases hr with ⟨h, -⟩ | ⟨b, off, cap, h, -, h3⟩
    · rw [h] at e; cases e
    · rw [h] at e
      injection e with e1
      injection e1 with e1
      rw [← e1]
      refine rangeAt_lt h3 (fun e0 => ?_)
      have := Tc_len ts
      rw [e0] at this
      have h0 := List.length_pos_iff.2 hne
      simp at this
      omega)
  have HX1 := Lib.hid x1
  have HBB := Lib.hid hB
  have HSW := Lib.hid hs
  have l0 : s < rb := by omega
  have l1 : rb < ib := by omega
  have l2 : ib < ab := by omega
  have l3 : ab < w1.heap.size := by omega
  clear x3 hw1 hs hrb hib hab hsz
  refine range_outerA (n := 0) (gf := 168) (lb := #[.pointer (some ⟨ab, 0, none⟩)]) rfl enters_all hit (Grow.refl _) (fun k hk => ⟨hk, rfl⟩) (fun _ => rfl)
    (fun k => k = ib ∨ k = rb) (by rintro k (rfl | rfl) <;> omega) (FindI w1.heap.size ib s rb name) (FindX w1.heap.size rb name) (FindI.stab (by omega) (by omega) (by omega)) (fun c => FindX.stab (by omega) c)
    ⟨fun _ h => h, x2, x0, x1, by simp, Nat.le_refl _⟩
    (fun x N => { tmps := #[.pointer (some ⟨g, 0, none⟩), .int .i64 name, undef, .pointer (some ⟨s, 0, none⟩), .pointer (some ⟨rb, 0, none⟩), .pointer (some ⟨ib, 0, none⟩), .pointer (some ⟨N, 0, none⟩), .pointer (some ⟨g, 0, none⟩), .func (.func 168) #[] #[.pointer (some ⟨ab, 0, none⟩)], .agg (tc x).toArray, undef, undef, undef, undef, undef, undef, undef], defers := [] })
    (fun x N W => W.heap[N]? = some (.cells (tc x).toArray 87 (0, 0))) (fun x N W W' h e => e.trans h) ?assign ?body ?done ?stop
  case assign =>
    intro l x W K hK
    refine frame_eq (b := { tmps := #[.pointer (some ⟨g, 0, none⟩), .int .i64 name, undef, .pointer (some ⟨s, 0, none⟩), .pointer (some ⟨rb, 0, none⟩), .pointer (some ⟨ib, 0, none⟩), undef, .pointer (some ⟨g, 0, none⟩), .func (.func 168) #[] #[.pointer (some ⟨ab, 0, none⟩)], .agg (tc x).toArray, undef, undef, undef, undef, undef, undef, undef], defers := [] }) (by simp) ?_
    gi_wp2_with (first
        | (refine wplIn_allocT rfl rfl ?_; intro C hC)
        | (refine wplIn_storeT (t := x) (C := C) _ _ rfl rfl rfl rfl (heap_alloc_new W _) hC ?_)
        | fail)
    refine hK _ ?_ (by simp) (setRow_heap _ _ _ _ _ _ (heap_alloc_new W _))
    exact ((Below.refl _ W).alloc (Nat.le_refl _) _).trans ⟨rfl, rfl, rfl, by simp, fun k hk => setRow_other _ _ k _ (by omega)⟩
  case body =>
    rintro l pre x Φ N W hpx ⟨hΦ, b1, b2, b3, hne, hz⟩ hl - - hlN hNW hAt
    have cN : W.cell? ⟨N, 0, none⟩ = some (.int .i64 x.name) := by rw [World.cell?, hAt]; rfl
    have c2 := b2.cell
    have c1 := b1.cell
    have f1 := b1.frozen
    have c3 := b3.cell
    have f3 := b3.frozen
    have hpl : pre.length ≤ 900 := by have h1 := hpx.length_le; have h2 := HL.out; simp at h1; omega
    have hpi : (pre.length : Int) ≤ 900 := by omega
    have HB1 := Lib.hid b1
    have HB2 := Lib.hid b2
    have HB3 := Lib.hid b3
    have HN := Lib.hid hne
    have HPh := Lib.hid hΦ
    clear b1 b2 b3 hne hAt hΦ
    have fin : ∀ (b : Nat) (u : Value) (R : List Tk → FP → World → Prop), (b = ib ∨ b = rb) → R (pre ++ [x]) (fun _ => False) (W.setCell ⟨b, 0, none⟩ u) → Leaves (fun k => k = ib ∨ k = rb) Φ W (fun Φ' W' => R (pre ++ [x]) Φ' W') (W.setCell ⟨b, 0, none⟩ u) := fun b u R hb hR =>
      ⟨_, fun k h => h.elim, ⟨⟨rfl, rfl, rfl, by simp [World.setCell]⟩, fun k hk h1 h2 => Below.heap_setCell _ _ _ k (fun e => h1 (by subst e; exact hb))⟩, hR⟩
    by_cases he : x.name = name
    · have he' : (x.name == name) = true := by simpa using he
      have hR : FindX w1.heap.size rb name .ret (pre ++ [x]) (fun _ => False) (W.setCell ⟨rb, 0, none⟩ (.int .i64 (pre.length : Nat))) :=
        ⟨rfl, fun _ h => h, ⟨pre, x, rfl, he, HN.out, HB3.out.set _⟩, by simpa [World.setCell] using hz⟩
      have HRR := Lib.hid (fin rb _ (FindX w1.heap.size rb name .ret) (.inr rfl) hR)
      clear fin hR
      gi_wp2
      exact HRR.out
    · have he' : (x.name == name) = false := by simpa using he
      have hR : FindI w1.heap.size ib s rb name (pre ++ [x]) (fun _ => False) (W.setCell ⟨ib, 0, none⟩ (.int .i64 ((pre.length : Nat) + 1))) :=
        ⟨fun _ h => h, by have := HB1.out.set (.int .i64 ((pre.length : Nat) + 1)); simpa using this, HB2.out.other (by omega) _, HB3.out.other (by omega) _, fun t ht => by
          rcases List.mem_append.1 ht with h | h
          · exact HN.out t h
          · rw [List.mem_singleton] at h; subst h; exact he, by simpa [World.setCell] using hz⟩
      have HRR := Lib.hid (fin ib _ (FindI w1.heap.size ib s rb name) (.inl rfl) hR)
      clear fin hR
      gi_wp2
      exact HRR.out
  case done =>
    rintro D Φ W3 ⟨hΦ, b1, b2, b3, hne, hz⟩ hon hD hnD hK
    have hsw := HSW.out
    have hidx := idxN_none hne
    have HI := Lib.hid hidx
    have c3 := b3.cell
    have f3 := b3.frozen
    have HB3 := Lib.hid b3
    have HON := Lib.hid hon
    have HKK := Lib.hid hK
    clear b1 b2 b3 hon hne hidx hK hsw
    gi_wp2
    obtain ⟨W5, hW5⟩ : ∃ W5, W5 = W3.setCell ⟨rb, 0, none⟩ (.int .i64 (-1)) := ⟨_, rfl⟩
    rw [← hW5]
    have hsame : ∀ k, k ≠ rb → W5.heap[k]? = W3.heap[k]? := fun k h1 => by rw [hW5]; exact Below.heap_setCell _ _ _ k h1
    have hx2 : Boxed W5 rb 3 (.int .i64 (-1)) := by rw [hW5]; exact HB3.out.set _
    have hgw : Grow W3 W5 := by rw [hW5]; exact ⟨rfl, rfl, rfl, by simp [World.setCell]⟩
    have hK5 : W5.heap[D]? = some (.deferred (some [])) := (hsame D (by omega)).trans HKK.out
    have hk2 : Boxed (W5.putObj D (.deferred none)) rb 3 (.int .i64 (-1)) := (put_other (by omega)).trans hx2
    have hcc2 := hk2.cell
    refine ⟨by simp, .inl ⟨_, _, rfl, run_takeDeferred hK5, ?_⟩⟩
    refine ⟨.int .i64 (-1), by simp [results, Tryz.results181, go_sem, hcc2], by rw [HI.out], ?_⟩
    have hg : Grow W3 (W5.putObj D (.deferred none)) := hgw.trans (put_grow _ _ _)
    have hO2 := HON.out
    have hw2 := HBB.out
    have hsw := HSW.out
    refine ⟨hg.os.trans (hO2.grow.os.trans hw2.os), hg.tape.trans (hO2.grow.tape.trans hw2.tape), hg.output.trans (hO2.grow.output.trans hw2.output), by have := hg.size; have := hO2.grow.size; have := hw2.size; omega, fun k hk => ?_⟩
    rw [put_other (by omega), hsame k (by omega), hO2.block k (by omega) (fun h => by omega) (fun h => h)]
    exact hw2.block k hk
  case stop =>
    rintro D Φ c pre W3 hpre ⟨rfl, hΦ, ⟨p, t, rfl, ht, hp, b3⟩, hz⟩ hon hD hnD hK
    have hidx := idxN_at hpre ht hp
    have HI := Lib.hid hidx
    have c3 := b3.cell
    have HB3 := Lib.hid b3
    have HON := Lib.hid hon
    have HKK := Lib.hid hK
    clear b3 hon hidx hK
    gi_wp2
    have hk2 : Boxed (W3.putObj D (.deferred none)) rb 3 (.int .i64 (p.length : Nat)) := (put_other (by omega)).trans HB3.out
    have hcc2 := hk2.cell
    refine ⟨by simp, .inl ⟨_, _, rfl, run_takeDeferred HKK.out, ?_⟩⟩
    refine ⟨.int .i64 (p.length : Nat), by simp [results, Tryz.results181, go_sem, hcc2], by rw [HI.out], ?_⟩
    have hg : Grow W3 (W3.putObj D (.deferred none)) := put_grow _ _ _
    have hO2 := HON.out
    have hw2 := HBB.out
    have hsw := HSW.out
    refine ⟨hg.os.trans (hO2.grow.os.trans hw2.os), hg.tape.trans (hO2.grow.tape.trans hw2.tape), hg.output.trans (hO2.grow.output.trans hw2.output), by have := hg.size; have := hO2.grow.size; have := hw2.size; omega, fun k hk => ?_⟩
    rw [put_other (by omega), hO2.block k (by omega) (fun h => by omega) (fun h => h)]
    exact hw2.block k hk
end Go.Proofs.YteioacpfphigjaaGreatDoor
end

section
namespace Go.Proofs.YteioacpfphigjaaGreatDoor
open Go.RowKit Go.Shelf
set_option linter.unusedVariables false
set_option linter.unusedSimpArgs false

def RTup (ts : List Tk) (t : Tk) (v : Value) : Prop := ∃ (i : Nat) (b : Bool), v = .tuple #[.int .i64 (i : Nat), .bool b] ∧ Found ts t i
def RIdx (ts : List Tk) (t : Tk) (v : Value) : Prop := ∃ i : Nat, v = .int .i64 (i : Nat) ∧ Found ts t i
def RBool (v : Value) : Prop := ∃ b : Bool, v = .bool b
theorem rtup_mk {ts : List Tk} {t : Tk} {i : Nat} (b : Bool) (h : Found ts t i) : RTup ts t (.tuple #[.int .i64 (i : Nat), .bool b]) := ⟨i, b, rfl, h⟩
theorem ridx_mk {ts : List Tk} {t : Tk} {i : Nat} (h : Found ts t i) : RIdx ts t (.int .i64 (i : Nat)) := ⟨i, rfl, h⟩
theorem rbool_mk (b : Bool) : RBool (.bool b) := ⟨b, rfl⟩
def loadTask (v : Value) : Sem Value := Instr.loadAt 87 v
theorem loadAt_task (v : Value) : Instr.loadAt 87 v = loadTask v := rfl
theorem fold_set : ∀ (l : List Value) (k : Nat) (C : Array Value), k + l.length ≤ C.size → (l.zipIdx k).foldl (fun cs (x : Value × Nat) => cs.setIfInBounds (0 + x.2) x.1) C = (C.toList.take k ++ l ++ C.toList.drop (k + l.length)).toArray
  | [], k, C, _ => by simp
  | u :: l, k, C, h => by
    simp only [List.zipIdx_cons, List.foldl_cons, Nat.zero_add]
    have h' : k + 1 + l.length ≤ C.size := by simp at h; omega
    have ih := fold_set l (k + 1) (C.setIfInBounds k u) (by simp; omega)
    simp only [Nat.zero_add] at ih
    rw [ih]
    apply congrArg List.toArray
    rw [Array.toList_setIfInBounds, List.length_cons]
    exact list_seg_step C.toList k u l (by simpa using h)
def buildTask (parts : Array (Nat × Value)) : Sem Value := Instr.buildSlice 84 1 parts
theorem buildSlice_task (parts : Array (Nat × Value)) : Instr.buildSlice 84 1 parts = buildTask parts := rfl
theorem run_buildTask (t : Tk) (w : World) : (buildTask #[(0, .agg (tc t).toArray)]).run Tryz.prog w = .ok (.slice (some ⟨w.heap.size, 0, none⟩) 1 1) (w.alloc (.cells (tc t).toArray 87)) := by
  obtain ⟨z, hz, hzs, hz1⟩ := zeroT
  obtain ⟨i0, hi, hz0⟩ := Option.bind_eq_some_iff.1 hz
  have hsz : i0.size = 36 := by
    have := sizeT
    rw [hi] at this
    simpa using this
  refine run_buildSlice w _ 87 1 _ _ i0 z Tryz.underlying84 hi hz0 (by rw [hsz]; decide) (by rw [hsz]; decide) ?_
  have hc : (Value.agg (tc t).toArray).cells = (tc t).toArray := rfl
  have h36 : (tc t).toArray.size = 36 := by simp [tc_len]
  simp only [Instr.fill, hc, hsz]
  rw [if_neg (by simp [tc_len, hsz])]
  have hf := fold_set (tc t) 0 ((Array.range (1 * 36)).map (z.cells[· % z.cells.size]!)) (by simp [tc_len])
  have e2 : (tc t).toArray.zipIdx.foldl (fun (cs : Array Value) (x : Value × Nat) => cs.setIfInBounds (0 + x.2) x.1) ((Array.range (1 * 36)).map (z.cells[· % z.cells.size]!)) = (tc t).toArray := by
    rw [← Array.foldl_toList]
    simp only [Array.toList_zipIdx]
    rw [hf]
    simp [tc_len]
  simpa [Instr.fill] using e2
attribute [local go_sem ↓] loadAt_task buildSlice_task
theorem run_loadTask {w : World} {b : Nat} {t : Tk} (h : w.rangeAt b 0 (tc t)) : (loadTask (.pointer (some ⟨b, 0, none⟩))).run Tryz.prog w = .ok (.agg (tc t).toArray) w :=
  run_loadAt_mid w b 0 87 (tc t) _ h Tryz.underlying87 rfl (by rw [tc_len]; exact sizeT)

/-- In order. -/
def Srt (ts : List Tk) : Prop := ts.Pairwise fun a b => cmpT a b < 0
def aheadB (t : Tk) (u : Tk) : Bool := decide (cmpT u t < 0)
/-- Put where it belongs. -/
def insP (ts : List Tk) (t : Tk) : List Tk := ts.takeWhile (aheadB t) ++ t :: ts.dropWhile (aheadB t)
theorem cmpI_lt {a b : Int} : cmpI a b < 0 ↔ a < b := by unfold cmpI; split <;> (try split) <;> omega
theorem cmpI_zero {a b : Int} : cmpI a b = 0 ↔ a = b := by unfold cmpI; split <;> (try split) <;> omega
theorem cmpT_lt {a b : Tk} : cmpT a b < 0 ↔ a.due < b.due ∨ (a.due = b.due ∧ (a.prio < b.prio ∨ (a.prio = b.prio ∧ a.name < b.name))) := by
  have h1 := @cmpI_lt a.due b.due
  have h2 := @cmpI_lt a.prio b.prio
  have h3 := @cmpI_lt a.name b.name
  have e1 := @cmpI_zero a.due b.due
  have e2 := @cmpI_zero a.prio b.prio
  unfold cmpT
  by_cases c1 : cmpI a.due b.due = 0
  · rw [if_neg (by simpa using c1)]
    by_cases c2 : cmpI a.prio b.prio = 0
    · rw [if_neg (by simpa using c2)]; have := e1.1 c1; have := e2.1 c2; omega
    · rw [if_pos c2]; have := e1.1 c1; have : ¬ a.prio = b.prio := fun h => c2 (e2.2 h); omega
  · rw [if_pos c1]; have : ¬ a.due = b.due := fun h => c1 (e1.2 h); omega
theorem cmpT_trans {a b c : Tk} (h1 : cmpT a b < 0) (h2 : cmpT b c < 0) : cmpT a c < 0 := by
  rw [cmpT_lt] at *; omega
theorem Srt.at {ts : List Tk} (h : Srt ts) {i j : Nat} (hij : i < j) (hj : j < ts.length) : cmpT (ts[i]'(by omega)) ts[j] < 0 :=
  List.pairwise_iff_getElem.1 h i j (by omega) hj hij
theorem found_insP {ts : List Tk} {t : Tk} {i : Nat} (hs : Srt ts) (h : Found ts t i) : insAt ts i t = insP ts t := by
  obtain ⟨h1, h2, h3⟩ := h
  have e1 : ts.takeWhile (aheadB t) = ts.take i ∧ ts.dropWhile (aheadB t) = ts.drop i := by
    have hall : ∀ u ∈ ts.take i, aheadB t u = true := by
      intro u hu
      obtain ⟨k, hk, rfl⟩ := List.mem_iff_getElem.1 hu
      rw [List.length_take] at hk
      simp only [List.getElem_take, aheadB, decide_eq_true_eq]
      have hl := h2 ⟨by omega, h1⟩
      by_cases e : k = i - 1
      · subst e; exact hl
      · exact cmpT_trans (hs.at (i := k) (j := i - 1) (by omega) (by omega)) hl
    have hts : ts = ts.take i ++ ts.drop i := (List.take_append_drop i ts).symm
    have hdr : ∀ u r, ts.drop i = u :: r → aheadB t u = false := by
      intro u r e
      have hi : i < ts.length := by
        by_cases hi : i < ts.length
        · exact hi
        · rw [List.drop_of_length_le (by omega)] at e; cases e
      rw [List.drop_eq_getElem_cons hi] at e
      injection e with e1 _
      subst e1
      have := h3 hi
      simp only [aheadB, decide_eq_false_iff_not]
      omega
    obtain ⟨A, hA⟩ : ∃ A, A = ts.take i := ⟨_, rfl⟩
    obtain ⟨D, hD⟩ : ∃ D, D = ts.drop i := ⟨_, rfl⟩
    rw [← hA] at hall hts ⊢
    rw [← hD] at hts hdr ⊢
    subst hts
    refine ⟨?_, ?_⟩
    · rw [List.takeWhile_append_of_pos hall]
      cases D with
      | nil => simp
      | cons u r => rw [List.takeWhile_cons_of_neg (by rw [hdr u r rfl]; simp)]; simp
    · rw [List.dropWhile_append_of_pos hall]
      cases D with
      | nil => simp
      | cons u r => rw [List.dropWhile_cons_of_neg (by rw [hdr u r rfl]; simp)]
  unfold insAt insP
  rw [e1.1, e1.2]
def BadT (t : Tk) : Prop := t.name < 0 ∨ t.due < 0 ∨ t.prio < 0
instance (t : Tk) : Decidable (BadT t) := by unfold BadT; infer_instance
def putE (ts : List Tk) (t : Tk) : Int := if BadT t then 1 else if 0 ≤ idxN ts t.name then 5 else if 12 ≤ ts.length then 3 else 0
def putL (ts : List Tk) (t : Tk) : List Tk := if putE ts t = 0 then insP ts t else ts
/-- What a call on an agenda leaves: its own blocks may have been written. -/
def Left2 (B g : Nat) (v : Value) (ts : List Tk) (w : World) (w' : World) : Prop := ∃ v', AgA B g v' ts w' ∧ Only (fun k => k = g ∨ v.ownBlock = some k) (fun _ => False) w w' ∧ Fresh w v v'
theorem AgA.later {B g : Nat} {v : Value} {ts : List Tk} {w w' : World} (h : AgA B g v ts w) (hb : Below w.heap.size w w') : AgA B g v ts w' := by
  have hg : g < w.heap.size := by
    by_cases hh : g < w.heap.size
    · exact hh
    · have := h.at_; rw [Array.getElem?_eq_none (by omega)] at this; cases this
  exact ⟨(hb.block g hg).trans h.at_, h.own.of (Nat.le_refl _) (fun k hk => hb.block k (h.own.block hk).2), h.ne, h.lo⟩
theorem Left2.same {B g : Nat} {v : Value} {ts : List Tk} {w w' : World} (h : AgA B g v ts w) (hb : Below w.heap.size w w') : Left2 B g v ts w w' :=
  ⟨v, h.later hb, Only.of_later hb, Fresh.same rfl⟩

theorem AgA.lt {B g : Nat} {v : Value} {ts : List Tk} {w : World} (h : AgA B g v ts w) : g < w.heap.size := by
  by_cases hh : g < w.heap.size
  · exact hh
  · have := h.at_; rw [Array.getElem?_eq_none (by omega)] at this; cases this
/-- The row that came back is laid into the agenda. -/
theorem left2_store {B g : Nat} {v : Value} {ts ts' : List Tk} {w wa wn : World} {ao : Option Addr} {m cap : Nat} (hA : AgA B g v ts w) (hb : Below w.heap.size w wa) (hg : wa.grownBy wn v.ownBlock) (hO : OwnT B (.slice ao m cap) ts' wn)
    (hA9 : wn.heap[g]? = some (.cells #[v] 195 (0, 0))) (hfr : Fresh wa v (.slice ao m cap)) : Left2 B g v ts' w (wn.setCell ⟨g, 0, none⟩ (.slice ao m cap)) := by
  have hgl := hA.lt
  have hne : (Value.slice ao m cap).ownBlock ≠ some g := by
    intro e
    rcases hO.2 with ⟨h, -⟩ | ⟨k, c, cur, h, -, h2, -⟩
    · rw [h] at e; cases e
    · rw [h] at e
      have e' : k = g := by simpa [Value.ownBlock] using e
      rw [e', hA9] at h2
      simp only [Option.some.injEq, Obj.cells.injEq] at h2
      exact absurd h2.2.1 (by decide)
  refine ⟨.slice ao m cap, ⟨?_, hO.of (Nat.le_refl _) (fun k hk => heap_setCell_other _ _ _ _ (fun e => hne (by rw [hk, e]))), hne, hA.lo⟩, ⟨⟨?_, ?_, ?_, ?_⟩, fun k hk h1 _ => ?_⟩, fun k hk => (hfr k hk).imp id (fun h => Nat.le_trans hb.size h)⟩
  · rw [heap_setCell_same _ _ _ _ _ _ hA9]; rfl
  · exact hg.os.trans hb.os
  · exact hg.tape.trans hb.tape
  · exact hg.output.trans hb.output
  · have := hg.size; have := hb.size; simp [World.setCell]; omega
  · rw [heap_setCell_other _ _ _ _ (fun e => h1 (.inl e)), hg.block k (Nat.lt_of_lt_of_le hk hb.size) (fun e => h1 (.inr e.symm))]
    exact hb.block k hk

end Go.Proofs.YteioacpfphigjaaGreatDoor
end

section
namespace Go.Proofs.YteioacpfphigjaaGreatDoor
open Go.RowKit Go.Shelf
set_option linter.unusedVariables false
set_option linter.unusedSimpArgs false

theorem agenda_New (w : World) : Calls Tryz.prog 56 #[] w fun e w' => e = .returned (.pointer (some ⟨w.heap.size, 0, none⟩)) ∧ w' = w.alloc (.cells #[.slice none 0 0] 195) := by
  go_enter Tryz.func56, Tryz.ntmps56
  go_wp2
  go_ret
  exact ⟨rfl, rfl⟩
theorem AgA.new (w : World) : AgA w.heap.size w.heap.size (.slice none 0 0) [] (w.alloc (.cells #[.slice none 0 0] 195)) :=
  ⟨heap_alloc_new w _, OwnT.nil _ _, by simp [Value.ownBlock], Nat.le_refl _⟩
/-- What is left when the task of a name is taken away. -/
def delN (ts : List Tk) (name : Int) : List Tk := if 0 ≤ idxN ts name then delAt ts (idxN ts name).toNat ((idxN ts name).toNat + 1) else ts
theorem idxN_lt {ts : List Tk} {name : Int} : idxN ts name < ts.length ∧ -1 ≤ idxN ts name := by
  unfold idxN
  split
  · rename_i i h
    have := (List.findIdx?_eq_some_iff_getElem.1 h).1
    omega
  · omega
end Go.Proofs.YteioacpfphigjaaGreatDoor
end
