/-
  A region that draws its order, walked once, in the order of the text: each operation either yields one value in every later world, or a known value, or one of which something is said that stays true in later worlds. Over any program.
-/
import Derived.WalkKit
import Derived.Deep.Quiet
namespace Go.Proofs.Ytbndegkgpoemnaa
open Go.RowKit Go.BigFrame
set_option linter.unusedVariables false

section
variable {P : Program} {ops : Array Oper} {L : World → World → Prop}

/-- What is said of an operation's value: it is the same in every later world; it is this one; it meets this, in whatever world is later. -/
inductive Sp where
  | pure
  | pin (c : Value)
  | any (R : World → Value → Prop)

/-- What an operation leaves. -/
def DoesUpon (P : Program) (L : World → World → Prop) (w : World) (R : World → Value → Prop) : Result Next → Prop
  | .ok (.value u) w' => L w w' ∧ R w' u
  | .ok .skip w' => L w w' ∧ R w' undef
  | .ok (.enter f args) w' => Calls P f args w' (fun e w'' => ∃ v, e = .returned v ∧ L w w'' ∧ R w'' v)
  | .ok (.row row args) w' => Rows P row args w' (fun v w'' => L w w'' ∧ R w'' v)
  | _ => False

def Does (P : Program) (L : World → World → Prop) (o : Oper) (a : Act) (w : World) (R : World → Value → Prop) : Prop := DoesUpon P L w R ((execOp a.eval o).run P w)

theorem wp_of_does {o : Oper} {a : Act} {w : World} {R : World → Value → Prop} {K : Act → World → Prop} {Q : Exit → Act → World → Prop} (h : Does P L o a w R) (hK : ∀ v w', L w w' → R w' v → K (a.put o.dst v) w') : o.wp P a w K Q := by
  unfold Does at h
  unfold Oper.wp
  generalize (execOp a.eval o).run P w = r at *
  cases r with
  | ok n w' =>
    cases n <;> simp only [DoesUpon] at h <;> simp only [Oper.upon]
    case value u => exact hK _ _ h.1 h.2
    case skip => exact hK _ _ h.1 h.2
    case enter f args =>
      refine h.mono ?_
      rintro e w'' ⟨v, rfl, h1, h2⟩
      exact hK _ _ h1 h2
    case row row args => exact h.mono fun v w'' h2 => hK _ _ h2.1 h2.2
  | halt x w' => simp only [DoesUpon] at h

/-- Which operation's value an operand is: that of one that it waits for. -/
def srcOf (ops : Array Oper) (o : Oper) (t : Tmp) : Option Nat :=
  o.after.toList.findSome? fun e => if Region.binds .any e && ((ops[e.on]?).bind (·.dst)) == some t then some e.on else none

def waitsFor (o : Oper) (j : Nat) : Bool := o.after.any fun e => Region.binds .any e && e.on == j

/-- The region is in order: who waits, waits for what stands ahead; no slot is written twice; a slot that is written and read: one waits for the other. -/
def monoB (ops : Array Oper) (n : Nat) : Bool :=
  ops.toList.zipIdx.all fun (o, i) =>
    (o.after.all fun e => !Region.binds .any e || decide (e.on < i)) &&
    (match o.dst with | some t => decide (t < n) | none => true) &&
    ops.toList.zipIdx.all fun (x, j) =>
      match x.dst with
      | some t => (i == j || o.dst != some t) && (!(o.looksAt ops).contains t || (srcOf ops o t).isSome || i == j || waitsFor x i)
      | none => true

theorem getD_of_lt {l : Array Bool} {i : Nat} (h : i < l.size) (b c : Bool) : l.getD i b = l.getD i c := by
  simp [Array.getD, h]

theorem eval_put_same {a : Act} {t : Tmp} {v : Value} (h : t < a.tmps.size) : (a.put (some t) v).eval (.tmp t) = v := by
  simp [Act.eval, Act.put, Array.getD, h]
theorem eval_put_other {a : Act} {t u : Tmp} {v : Value} (h : u ≠ t) : (a.put (some u) v).eval (.tmp t) = a.eval (.tmp t) := by
  simp [Act.eval, Act.put, Array.getElem?_setIfInBounds_ne h]

theorem monoB_spec {n : Nat} (h : monoB ops n = true) {i : Nat} {o : Oper} (ho : ops[i]? = some o) :
    (∀ e ∈ o.after, Region.binds .any e = true → e.on < i) ∧ (∀ t, o.dst = some t → t < n) ∧
    ∀ (j : Nat) (x : Oper) (t : Tmp), ops[j]? = some x → x.dst = some t → (i = j ∨ o.dst ≠ some t) ∧ (t ∈ o.looksAt ops → (srcOf ops o t).isSome = true ∨ i = j ∨ waitsFor x i = true) := by
  unfold monoB at h
  rw [List.all_eq_true] at h
  have mem : ∀ (j : Nat) (x : Oper), ops[j]? = some x → (x, j) ∈ ops.toList.zipIdx := fun j x hx => by
    rw [List.mem_zipIdx_iff_getElem?]; simpa using hx
  have h1 := h _ (mem i o ho)
  simp only [Bool.and_eq_true, List.all_eq_true] at h1
  obtain ⟨⟨h1, h2⟩, h3⟩ := h1
  refine ⟨fun e he hb => ?_, fun t ht => ?_, fun j x t hx hxt => ?_⟩
  · have := Array.all_eq_true_iff_forall_mem.1 h1 e he
    simp only [hb, Bool.not_true, Bool.false_or, decide_eq_true_eq] at this
    exact this
  · rw [ht] at h2; simpa using h2
  · have := h3 _ (mem j x hx)
    simp only [hxt, Bool.and_eq_true, Bool.or_eq_true, beq_iff_eq, bne_iff_ne, Bool.not_eq_true', List.contains_eq_mem] at this
    refine ⟨this.1, fun hm => ?_⟩
    rcases this.2 with ((h4 | h4) | h4) | h4
    · simp [hm] at h4
    · exact .inl h4
    · exact .inr (.inl h4)
    · exact .inr (.inr h4)

theorem srcOf_spec {o : Oper} {t : Tmp} {j : Nat} (h : srcOf ops o t = some j) : ∃ e ∈ o.after, Region.binds .any e = true ∧ e.on = j ∧ ∃ x, ops[j]? = some x ∧ x.dst = some t := by
  unfold srcOf at h
  obtain ⟨e, he, h1⟩ := List.exists_of_findSome?_eq_some h
  split at h1
  · rename_i hc
    simp only [Bool.and_eq_true, beq_iff_eq] at hc
    simp only [Option.some.injEq] at h1
    subst h1
    obtain ⟨hb, hd⟩ := hc
    obtain ⟨x, hx, hxt⟩ := Option.bind_eq_some_iff.1 hd
    exact ⟨e, by simpa using he, hb, rfl, x, hx, hxt⟩
  · simp at h1

/-- No operation chooses among channels; a guard's slot is one of the frame's. -/
def planB (ops : Array Oper) (n : Nat) : Bool :=
  ops.toList.all fun o => (match o.op with | .select .. => false | _ => true) && (match o.guard with | some (g, _) => (match (ops[g]?).bind (·.dst) with | some t => decide (t < n) | none => true) | none => true)

theorem planB_spec {n : Nat} (h : planB ops n = true) {i : Nat} {o : Oper} (ho : ops[i]? = some o) : (∀ cs b, o.op ≠ .select cs b) ∧ ∀ g b t, o.guard = some (g, b) → (ops[g]?).bind (·.dst) = some t → t < n := by
  unfold planB at h
  rw [List.all_eq_true] at h
  have := h o (by simpa using Array.mem_of_getElem? ho)
  rw [Bool.and_eq_true] at this
  refine ⟨fun cs b hc => by rw [hc] at this; simp at this, fun g b t hg ht => ?_⟩
  have := this.2
  rw [hg] at this
  simp only [ht, decide_eq_true_eq] at this
  exact this

/-- Two frames alike where an operation looks. -/
theorem exec_congr {o : Oper} {a b : Act} (hsel : ∀ cs b, o.op ≠ .select cs b) (hag : ∀ t ∈ o.looksAt ops, a.eval (.tmp t) = b.eval (.tmp t)) : execOp a.eval o = execOp b.eval o :=
  execOp_congr o hsel (fun x hx => by
    cases x with
    | tmp t => exact hag t (List.mem_append_left _ (List.mem_filterMap.2 ⟨.tmp t, by simpa using hx, rfl⟩))
    | _ => rfl)
theorem wanted_congr {o : Oper} {a b : Act} {n : Nat} (ha : a.tmps.size = n) (hb : b.tmps.size = n) (hgb : ∀ g b t, o.guard = some (g, b) → (ops[g]?).bind (·.dst) = some t → t < n)
    (hag : ∀ t ∈ o.looksAt ops, a.eval (.tmp t) = b.eval (.tmp t)) : Region.wanted o (yielded ops a.tmps) = Region.wanted o (yielded ops b.tmps) := by
  unfold Region.wanted
  cases hg : o.guard with
  | none => rfl
  | some gw =>
    obtain ⟨g, want⟩ := gw
    have hy : yielded ops a.tmps g = yielded ops b.tmps g := by
      unfold yielded
      cases ht : (ops[g]?).bind (·.dst) with
      | none => rfl
      | some t =>
        have h1 := hag t (List.mem_append_right _ (by rw [hg]; simp [ht]))
        have hlt := hgb g want t hg ht
        have e1 : a.tmps[t]? = some (a.eval (.tmp t)) := by simp [Act.eval, ha, hlt]
        have e2 : b.tmps[t]? = some (b.eval (.tmp t)) := by simp [Act.eval, hb, hlt]
        simp only [Option.bind_some, e1, e2, h1]
    simp only [hy]

/-- In every later world the operation yields this. -/
def PureAt (P : Program) (ops : Array Oper) (L : World → World → Prop) (w1 : World) (a : Act) (o : Oper) (v : Value) : Prop :=
  if Region.wanted o (yielded ops a.tmps) = true then ∀ w, L w1 w → (execOp a.eval o).run P w = .ok (.value v) w else v = undef

theorem PureAt.det {w1 : World} {a : Act} {o : Oper} {u v : Value} (hr : L w1 w1) (h : PureAt P ops L w1 a o u) (k : PureAt P ops L w1 a o v) : u = v := by
  unfold PureAt at h k
  split at h
  · rename_i hw
    rw [if_pos hw] at k
    have := (h w1 hr).symm.trans (k w1 hr)
    injection this with this
    injection this
  · rename_i hw
    rw [if_neg hw] at k
    rw [h, k]

theorem PureAt.congr {w1 : World} {a b : Act} {o : Oper} {v : Value} {n : Nat} (ha : a.tmps.size = n) (hb : b.tmps.size = n) (hsel : ∀ cs b, o.op ≠ .select cs b) (hgb : ∀ g b t, o.guard = some (g, b) → (ops[g]?).bind (·.dst) = some t → t < n)
    (hag : ∀ t ∈ o.looksAt ops, a.eval (.tmp t) = b.eval (.tmp t)) (h : PureAt P ops L w1 a o v) : PureAt P ops L w1 b o v := by
  unfold PureAt at *
  rwa [← wanted_congr ha hb hgb hag, ← exec_congr hsel hag]

def snap (ops : Array Oper) (a0 a : Act) (o : Oper) (t : Tmp) : Value := match srcOf ops o t with | some _ => a.eval (.tmp t) | none => a0.eval (.tmp t)

/-- What holds of a value that an operation has made. -/
def Holds (P : Program) (ops : Array Oper) (L : World → World → Prop) (plan : List Sp) (n : Nat) (a0 : Act) (w1 : World) (i : Nat) (o : Oper) (a : Act) (w : World) (v : Value) : Prop :=
  match plan[i]? with
  | some .pure => ∀ b : Act, b.tmps.size = n → (∀ t ∈ o.looksAt ops, b.eval (.tmp t) = snap ops a0 a o t) → PureAt P ops L w1 b o v
  | some (.pin c) => v = c
  | some (.any R) => R w v
  | none => True

structure St (P : Program) (ops : Array Oper) (L : World → World → Prop) (plan : List Sp) (n : Nat) (a0 : Act) (w1 : World) (listed : Array Bool) (a : Act) (w : World) : Prop where
  later : L w1 w
  defers : a.defers = a0.defers
  size : a.tmps.size = n
  lsize : listed.size = ops.size
  shut : ∀ (j : Nat) (o : Oper), ops[j]? = some o → listed.getD j false = true → ∀ e ∈ o.after, Region.binds .any e = true → listed.getD e.on false = true
  new : ∀ (j : Nat) (o : Oper) (t : Tmp), ops[j]? = some o → listed.getD j false = true → o.dst = some t → Holds P ops L plan n a0 w1 j o a w (a.eval (.tmp t))
  old : ∀ t, (∀ (j : Nat) (o : Oper), ops[j]? = some o → listed.getD j false = true → o.dst ≠ some t) → a.eval (.tmp t) = a0.eval (.tmp t)

section
variable {plan : List Sp} {n : Nat} {a0 : Act} {w1 : World} {listed : Array Bool} {a : Act} {w : World}

theorem St.unlisted (st : St P ops L plan n a0 w1 listed a w) {i : Nat} {o : Oper} (ho : ops[i]? = some o) (hun : listed.getD i true = false) : listed.getD i false = false := by
  rw [getD_of_lt (by rw [st.lsize]; exact (Array.getElem?_eq_some_iff.1 ho).1) false true]; exact hun

theorem St.step (hstab : ∀ (i : Nat) R, plan[i]? = some (.any R) → ∀ w w' v, L w w' → R w v → R w' v) (htr : ∀ a b c, L a b → L b c → L a c) (hB : monoB ops n = true)
    (st : St P ops L plan n a0 w1 listed a w) {i : Nat} {o : Oper} (ho : ops[i]? = some o) (hun : listed.getD i true = false)
    (hall : ∀ e ∈ o.after, Region.binds .any e = true → listed.getD e.on false = true) {v : Value} {w' : World} (hL : L w w') (hR : ∀ t, o.dst = some t → Holds P ops L plan n a0 w1 i o (a.put o.dst v) w' v) :
    St P ops L plan n a0 w1 (listed.setIfInBounds i true) (a.put o.dst v) w' := by
  obtain ⟨m1, m2, m3⟩ := monoB_spec hB ho
  have hi : i < ops.size := (Array.getElem?_eq_some_iff.1 ho).1
  have hif := st.unlisted ho hun
  have gd : ∀ j, (listed.setIfInBounds i true).getD j false = true ↔ j = i ∨ listed.getD j false = true := by
    intro j
    by_cases hj : j = i
    · subst hj; simp [Array.getD, st.lsize, hi]
    · rw [Array.getD_eq_getD_getElem?, Array.getElem?_setIfInBounds_ne (Ne.symm hj), ← Array.getD_eq_getD_getElem?]; simp [hj]
  have keep : ∀ (j : Nat) (x : Oper) (t : Tmp), ops[j]? = some x → j ≠ i → x.dst = some t → (a.put o.dst v).eval (.tmp t) = a.eval (.tmp t) := by
    intro j x t hx hji ht
    have hne := (m3 j x t hx ht).1.resolve_left (Ne.symm hji)
    cases hd : o.dst with
    | none => rfl
    | some u => exact eval_put_other (fun h => hne (by rw [hd, h]))
  refine ⟨htr _ _ _ st.later hL, by cases o.dst <;> exact st.defers, ?_, by simp [st.lsize], ?_, ?_, ?_⟩
  · cases hd : o.dst with
    | none => exact st.size
    | some t => simp [Act.put, st.size]
  · intro j x hx hl e he hb
    rw [gd] at hl ⊢
    right
    rcases hl with rfl | hl
    · rw [ho] at hx; cases hx; exact hall e he hb
    · exact st.shut j x hx hl e he hb
  · intro j x t hx hl ht
    rw [gd] at hl
    by_cases hji : j = i
    · subst hji
      rw [ho] at hx; cases hx
      rw [ht, eval_put_same (by rw [st.size]; exact m2 t ht), ← ht]
      exact hR t ht
    · have hl' : listed.getD j false = true := hl.resolve_left hji
      have := st.new j x t hx hl' ht
      rw [keep j x t hx hji ht]
      unfold Holds at this ⊢
      split at this
      · rename_i hp
        refine fun b hb hag => this b hb (fun u hu => (hag u hu).trans ?_)
        unfold snap
        cases hs : srcOf ops x u with
        | none => rfl
        | some k =>
          obtain ⟨e, he, hb', rfl, y, hy, hyt⟩ := srcOf_spec hs
          have hkl := st.shut j x hx hl' e he hb'
          exact keep e.on y u hy (fun h => by rw [h, hif] at hkl; cases hkl) hyt
      · exact this
      · rename_i R hp; exact hstab j R hp _ _ _ hL this
      · trivial
  · intro t hno
    have h1 := hno i o ho ((gd i).2 (.inl rfl))
    have e : (a.put o.dst v).eval (.tmp t) = a.eval (.tmp t) := by
      cases hd : o.dst with
      | none => rfl
      | some u => exact eval_put_other (fun h => h1 (by rw [hd, h]))
    rw [e]
    exact st.old t (fun j x hx hl => hno j x hx ((gd j).2 (.inr hl)))

/-- An operand that no operation ahead makes is what it was. -/
theorem St.olds (hB : monoB ops n = true) (st : St P ops L plan n a0 w1 listed a w) {i : Nat} {o : Oper} (ho : ops[i]? = some o) (hun : listed.getD i true = false) {t : Tmp} (ht : t ∈ o.looksAt ops) (hs : srcOf ops o t = none) : a.eval (.tmp t) = a0.eval (.tmp t) := by
  obtain ⟨m1, m2, m3⟩ := monoB_spec hB ho
  have hif := st.unlisted ho hun
  refine st.old t (fun j x hx hl hxt => ?_)
  rcases (m3 j x t hx hxt).2 ht with h | h | h
  · rw [hs] at h; cases h
  · subst h; rw [hif] at hl; cases hl
  · unfold waitsFor at h
    rw [Array.any_eq_true] at h
    obtain ⟨k, hk, h⟩ := h
    simp only [Bool.and_eq_true, beq_iff_eq] at h
    have := st.shut j x hx hl x.after[k] (Array.getElem_mem hk) h.1
    rw [h.2, hif] at this
    cases this
end

theorem all_listed {n : Nat} (hB : monoB ops n = true) {listed : Array Bool} (hs : listed.size = ops.size) (hr : Region.ready .any ops listed = []) : ∀ j, j < ops.size → listed.getD j false = true := by
  intro j
  induction j using Nat.strongRecOn with
  | ind j ih =>
    intro hj
    cases hl : listed.getD j false with
    | true => rfl
    | false =>
      have ho : ops[j]? = some ops[j] := Array.getElem?_eq_getElem hj
      have : j ∈ Region.ready .any ops listed := mem_ready.2 ⟨by rw [getD_of_lt (by rw [hs]; exact hj) true false]; exact hl, _, ho, fun e he hb => ih e.on ((monoB_spec hB ho).1 e he hb) (Nat.lt_trans ((monoB_spec hB ho).1 e he hb) hj)⟩
      rw [hr] at this; cases this

theorem act_ext {a b : Act} (h1 : a.tmps.size = b.tmps.size) (h2 : a.defers = b.defers) (h3 : ∀ t, a.eval (.tmp t) = b.eval (.tmp t)) : a = b := by
  obtain ⟨x, d⟩ := a
  obtain ⟨y, d'⟩ := b
  simp only at h1 h2
  subst h2
  have : x = y := by
    refine Array.ext h1 (fun i hi hi' => ?_)
    have := h3 i
    simpa [Act.eval, Array.getD, hi, hi'] using this
  rw [this]

/-- How one operation ends. -/
def QR (L : World → World → Prop) (o : Oper) (R : World → Value → Prop) (a : Act) (w : World) (e : Exit) (a' : Act) (w' : World) : Prop :=
  e = .normal ∧ a'.defers = a.defers ∧ L w w' ∧ ∀ t, o.dst = some t → R w' (a'.eval (.tmp t))

/-- What is known of the operands that operations of the region have made. -/
def Know (ops : Array Oper) (plan : List Sp) (o : Oper) (a : Act) (w : World) : Prop :=
  ∀ t ∈ o.looksAt ops, ∀ j R, srcOf ops o t = some j → plan[j]? = some (.any R) → R w (a.eval (.tmp t))

/-- What is known of all. -/
def KnowAll (ops : Array Oper) (plan : List Sp) (a : Act) (w : World) : Prop :=
  ∀ (j : Nat) (o : Oper) (t : Tmp) R, ops[j]? = some o → o.dst = some t → plan[j]? = some (.any R) → R w (a.eval (.tmp t))

/-- The operations in the text's order, each by what is said of it. -/
def WM (P : Program) (ops : Array Oper) (L : World → World → Prop) (plan : List Sp) (w1 : World) (Q : Act → World → Prop) : List Oper → List Sp → Act → Prop
  | o :: l, .pure :: ps, a => ∃ c, PureAt P ops L w1 a o c ∧ WM P ops L plan w1 Q l ps (a.put o.dst c)
  | o :: l, .pin c :: ps, a => (∀ w, L w1 w → Know ops plan o a w → wpList P ops (QR L o (fun _ v => v = c) a w) [o] a w) ∧ WM P ops L plan w1 Q l ps (a.put o.dst c)
  | o :: l, .any R :: ps, a => (∀ w, L w1 w → Know ops plan o a w → wpList P ops (QR L o R a w) [o] a w) ∧ ∀ v, WM P ops L plan w1 Q l ps (a.put o.dst v)
  | [], [], a => ∀ w, L w1 w → KnowAll ops plan a w → Q a w
  | _, _, _ => False

theorem does_of_wpList {o : Oper} {R : World → Value → Prop} {al a : Act} {w : World} {n : Nat} (hal : al.tmps.size = n) (ha : a.tmps.size = n) (hsel : ∀ cs b, o.op ≠ .select cs b) (hgb : ∀ g b t, o.guard = some (g, b) → (ops[g]?).bind (·.dst) = some t → t < n)
    (hd : ∀ t, o.dst = some t → t < n) (hag : ∀ t ∈ o.looksAt ops, a.eval (.tmp t) = al.eval (.tmp t))
    (h : wpList P ops (QR L o R al w) [o] al w) : if Region.wanted o (yielded ops a.tmps) = true then Does P L o a w (fun w' v => ∀ t, o.dst = some t → R w' v) else L w w ∧ ∀ t, o.dst = some t → R w undef := by
  have he := exec_congr hsel hag
  have hw := wanted_congr ha hal hgb hag
  have val : ∀ v w', QR L o R al w .normal (al.put o.dst v) w' → L w w' ∧ ∀ t, o.dst = some t → R w' v := by
    rintro v w' ⟨-, -, h1, h2⟩
    refine ⟨h1, fun t hdst => ?_⟩
    have := h2 t hdst
    rwa [hdst, eval_put_same (by rw [hal]; exact hd t hdst)] at this
  rw [hw]
  unfold wpList at h
  split
  · rename_i hwt
    rw [if_pos hwt] at h
    have h : o.wp P al w (wpList P ops (QR L o R al w) []) (QR L o R al w) := by
      rcases h with h | ⟨-, a', w', h, -⟩
      · exact h
      · cases h
    unfold Oper.wp at h
    unfold Does
    rw [he]
    generalize (execOp al.eval o).run P w = r at *
    cases r with
    | ok x w' =>
      cases x <;> simp only [Oper.upon] at h <;> simp only [DoesUpon]
      case value u => exact val u w' h
      case skip => exact val undef w' h
      case defer d =>
        obtain ⟨-, h2, -⟩ := h
        have : ((({ al with defers := d :: al.defers } : Act).put o.dst undef)).defers = d :: al.defers := by cases o.dst <;> rfl
        rw [this] at h2
        have := congrArg List.length h2
        simp at this
      case enter f args =>
        refine Calls.mono h ?_
        intro e w'' h2
        cases e with
        | returned v => exact ⟨v, rfl, val v w'' h2⟩
        | panicked c => cases h2.1
        | outgrown => obtain ⟨a', w3, h3, -⟩ := h2; cases h3
      case row row args => exact Rows.mono h fun v w'' h2 => val v w'' h2
    | halt x w' => cases x <;> simp only [Oper.upon] at h <;> first | exact h.elim | (cases h.1)
  · rename_i hwt
    rw [if_neg hwt] at h
    exact val undef w h

section
variable {plan : List Sp} {n : Nat} {a0 : Act} {w1 : World} {listed : Array Bool} {a : Act} {w : World} {QF : Act → World → Prop}

/-- The text's frame: alike where what stands there has come up. -/
theorem lex_reach (hrefl : ∀ w, L w w) (hB : monoB ops n = true) (hn : a0.tmps.size = n) (st : St P ops L plan n a0 w1 listed a w) (h : WM P ops L plan w1 QF ops.toList plan a0) : ∀ k, k ≤ ops.size →
    ∃ al : Act, WM P ops L plan w1 QF (ops.toList.drop k) (plan.drop k) al ∧ al.tmps.size = n ∧ al.defers = a0.defers ∧
      (∀ (j : Nat) (x : Oper) (t : Tmp), j < k → ops[j]? = some x → x.dst = some t → listed.getD j false = true → al.eval (.tmp t) = a.eval (.tmp t)) ∧
      (∀ t, (∀ (j : Nat) (x : Oper), j < k → ops[j]? = some x → x.dst ≠ some t) → al.eval (.tmp t) = a0.eval (.tmp t)) := by
  intro k
  induction k with
  | zero => exact fun _ => ⟨a0, by simpa using h, hn, rfl, fun j _ _ hj => by omega, fun _ _ => rfl⟩
  | succ k ih =>
    intro hk
    obtain ⟨al, hw, hs, hdf, h1, h2⟩ := ih (by omega)
    have hkl : k < ops.toList.length := by simp; omega
    have ho : ops[k]? = some ops[k] := Array.getElem?_eq_getElem (by omega)
    obtain ⟨o, hoo⟩ : ∃ o, o = ops[k] := ⟨_, rfl⟩
    rw [← hoo] at ho
    obtain ⟨m1, m2, m3⟩ := monoB_spec hB ho
    have hdrop : ops.toList.drop k = o :: ops.toList.drop (k + 1) := by rw [List.drop_eq_getElem_cons hkl]; simp [hoo]
    rw [hdrop] at hw
    have ext : ∀ c, (listed.getD k false = true → ∀ t, o.dst = some t → c = a.eval (.tmp t)) → (al.put o.dst c).tmps.size = n ∧ (al.put o.dst c).defers = a0.defers ∧
        (∀ (j : Nat) (x : Oper) (t : Tmp), j < k + 1 → ops[j]? = some x → x.dst = some t → listed.getD j false = true → (al.put o.dst c).eval (.tmp t) = a.eval (.tmp t)) ∧
        (∀ t, (∀ (j : Nat) (x : Oper), j < k + 1 → ops[j]? = some x → x.dst ≠ some t) → (al.put o.dst c).eval (.tmp t) = a0.eval (.tmp t)) := by
      intro c hc
      refine ⟨?_, ?_, fun j x t hj hx hxt hl => ?_, fun t hno => ?_⟩
      · cases hd : o.dst <;> simp [Act.put, hs]
      · cases o.dst <;> exact hdf
      · by_cases hjk : j = k
        · subst hjk
          rw [ho] at hx; cases hx
          rw [hxt, eval_put_same (by rw [hs]; exact m2 t hxt)]
          exact hc hl t hxt
        · have hne := (m3 j x t hx hxt).1.resolve_left (fun h => hjk h.symm)
          have : (al.put o.dst c).eval (.tmp t) = al.eval (.tmp t) := by
            cases hd : o.dst with
            | none => rfl
            | some u => exact eval_put_other (fun h => hne (by rw [hd, h]))
          rw [this]; exact h1 j x t (by omega) hx hxt hl
      · have hne := hno k o (by omega) ho
        have : (al.put o.dst c).eval (.tmp t) = al.eval (.tmp t) := by
          cases hd : o.dst with
          | none => rfl
          | some u => exact eval_put_other (fun h => hne (by rw [hd, h]))
        rw [this]; exact h2 t (fun j x hj hx => hno j x (by omega) hx)
    cases hp : plan.drop k with
    | nil => rw [hp] at hw; exact hw.elim
    | cons s ps =>
      rw [hp] at hw
      have hpk : plan[k]? = some s := by have := congrArg List.head? hp; simpa using this
      have hps : plan.drop (k + 1) = ps := by rw [← List.drop_drop, hp]; rfl
      rw [hps]
      cases s with
      | pure =>
        obtain ⟨c, hc, hw⟩ := hw
        refine ⟨al.put o.dst c, hw, ext c (fun hl t ht => ?_)⟩
        have hH := st.new k o t ho hl ht
        unfold Holds at hH
        rw [hpk] at hH
        refine PureAt.det (hrefl w1) hc (hH al hs (fun u hu => ?_))
        unfold snap
        cases hsr : srcOf ops o u with
        | none =>
          refine h2 u (fun j x hj hx hxt => ?_)
          rcases (m3 j x u hx hxt).2 hu with h | h | h
          · rw [hsr] at h; cases h
          · omega
          · unfold waitsFor at h
            rw [Array.any_eq_true] at h
            obtain ⟨i, hi, h⟩ := h
            simp only [Bool.and_eq_true, beq_iff_eq] at h
            have := (monoB_spec hB hx).1 x.after[i] (Array.getElem_mem hi) h.1
            omega
        | some j =>
          obtain ⟨e, he, hb, rfl, x, hx, hxt⟩ := srcOf_spec hsr
          exact h1 e.on x u (m1 e he hb) hx hxt (st.shut k o ho hl e he hb)
      | pin c =>
        refine ⟨al.put o.dst c, hw.2, ext c (fun hl t ht => ?_)⟩
        have hH := st.new k o t ho hl ht
        unfold Holds at hH
        rw [hpk] at hH
        exact hH.symm
      | any R =>
        cases hd : o.dst with
        | none => exact ⟨al.put o.dst undef, by have := hw.2 undef; exact this, ext undef (fun _ t ht => by rw [hd] at ht; cases ht)⟩
        | some t => exact ⟨al.put o.dst (a.eval (.tmp t)), hw.2 _, ext _ (fun _ u hu => by rw [hd] at hu; cases hu; rfl)⟩
end

/-- What is said stays true. -/
def StabAll (L : World → World → Prop) : List Sp → Prop
  | [] => True
  | .any R :: ps => (∀ w w' v, L w w' → R w v → R w' v) ∧ StabAll L ps
  | .pure :: ps => StabAll L ps
  | .pin _ :: ps => StabAll L ps
theorem stabAll_at : ∀ (ps : List Sp), StabAll L ps → ∀ (i : Nat) R, ps[i]? = some (.any R) → ∀ w w' v, L w w' → R w v → R w' v
  | [], _, i, R, h => by simp at h
  | .any R' :: ps, h, 0, R, hi => by simp at hi; subst hi; exact h.1
  | .pure :: ps, h, 0, R, hi => by simp at hi
  | .pin _ :: ps, h, 0, R, hi => by simp at hi
  | .any R' :: ps, h, i + 1, R, hi => stabAll_at ps h.2 i R (by simpa using hi)
  | .pure :: ps, h, i + 1, R, hi => stabAll_at ps h i R (by simpa using hi)
  | .pin _ :: ps, h, i + 1, R, hi => stabAll_at ps h i R (by simpa using hi)

/-- **A region that draws its order, walked in the text's order.** -/
theorem wp_region_plan_lit {id : Nat} {Q : Exit → Act → World → Prop} {a0 : Act} {w0 : World} {l : List Oper} (n : Nat) (plan : List Sp) (hm : P.follows .mixedOrders = true) (hB : (monoB l.toArray n && planB l.toArray n) = true) (hn : a0.tmps.size = n)
    (hrefl : ∀ w, L w w) (htr : ∀ a b c, L a b → L b c → L a c) (hstab' : StabAll L plan)
    (h : WM P l.toArray L plan w0.drew (fun a w => Q .normal a w) l plan a0) : (Code.region id l.toArray true).wp P Q a0 w0 := by
  have hstab := stabAll_at plan hstab'
  obtain ⟨ops, hops⟩ : ∃ ops, ops = l.toArray := ⟨_, rfl⟩
  have hl : l = ops.toList := by rw [hops]
  rw [← hops] at hB h ⊢
  rw [hl] at h
  clear hl hops
  rw [Bool.and_eq_true] at hB
  obtain ⟨hB, hP⟩ := hB
  have fin : ∀ listed a w, St P ops L plan n a0 w0.drew listed a w → Region.ready .any ops listed = [] → Q .normal a w := by
    intro listed a w st hr
    have hl := all_listed hB st.lsize hr
    obtain ⟨al, hw, hs, hdf, h1, h2⟩ := lex_reach hrefl hB hn st h ops.size (Nat.le_refl _)
    have hlt : ∀ (i : Nat) (o : Oper), ops[i]? = some o → i < ops.size := fun i o ho => (Array.getElem?_eq_some_iff.1 ho).1
    have heq : al = a := by
      refine act_ext (hs.trans st.size.symm) (hdf.trans st.defers.symm) (fun t => ?_)
      by_cases ht : ∃ (i : Nat) (o : Oper), ops[i]? = some o ∧ o.dst = some t
      · obtain ⟨i, o, ho, hot⟩ := ht
        exact h1 i o t (hlt i o ho) ho hot (hl i (hlt i o ho))
      · rw [h2 t (fun i o _ ho hot => ht ⟨i, o, ho, hot⟩)]
        exact (st.old t (fun j o ho _ hot => ht ⟨j, o, ho, hot⟩)).symm
    rw [heq] at hw
    have e1 : ops.toList.drop ops.size = [] := by rw [List.drop_eq_nil_iff]; simp
    rw [e1] at hw
    cases hp : plan.drop ops.size with
    | cons s ps => rw [hp] at hw; exact hw.elim
    | nil =>
      rw [hp] at hw
      refine hw w st.later (fun j o t R ho hot hpl => ?_)
      have := st.new j o t ho (hl j (hlt j o ho)) hot
      unfold Holds at this
      rw [hpl] at this
      exact this
  have go : ∀ (fuel : Nat) (listed : Array Bool) (a : Act) (w : World), St P ops L plan n a0 w0.drew listed a w → (fuel = 0 → Region.ready .any ops listed = []) → (∀ i, i ∈ Region.ready .any ops listed → (listed.toList.filter (! ·)).length ≤ fuel) →
      wpAny P .any ops Q fuel listed a w := by
    intro fuel
    induction fuel with
    | zero => intro listed a w st h0 _; exact ⟨h0 rfl, fin listed a w st (h0 rfl)⟩
    | succ fuel ih =>
      intro listed a w st _ hc
      refine ⟨fun hr => fin listed a w st hr, fun i hi => ?_⟩
      obtain ⟨hun, o, ho, hall⟩ := mem_ready.1 hi
      have hil : i < listed.size := by rw [st.lsize]; exact (Array.getElem?_eq_some_iff.1 ho).1
      have hcount : ((listed.setIfInBounds i true).toList.filter (! ·)).length + 1 = (listed.toList.filter (! ·)).length := by
        have hget : listed.toList[i]? = some false := by
          have : listed.getD i true = false := hun
          simp [Array.getD, hil] at this
          simp [hil, this]
        have aux : ∀ (l : List Bool) (i : Nat), l[i]? = some false → ((l.set i true).filter (! ·)).length + 1 = (l.filter (! ·)).length := by
          intro l
          induction l with
          | nil => intro i h; simp at h
          | cons b l ih =>
            intro i h
            cases i with
            | zero => simp at h; subst h; simp
            | succ i =>
              have := ih i (by simpa using h)
              cases b <;> simp <;> omega
        rw [Array.toList_setIfInBounds]
        exact aux _ _ hget
      have hnext : ∀ v w', L w w' → (∀ t, o.dst = some t → Holds P ops L plan n a0 w0.drew i o (a.put o.dst v) w' v) → wpAny P .any ops Q fuel (listed.setIfInBounds i true) (a.put o.dst v) w' := by
        intro v w' hL hR
        have st' := st.step hstab htr hB ho hun hall hL hR
        have hle := hc i hi
        refine ih _ _ _ st' (fun h0 => ?_) (fun j hj => by omega)
        subst h0
        have hz : ((listed.setIfInBounds i true).toList.filter (! ·)).length = 0 := by omega
        cases hr : Region.ready .any ops (listed.setIfInBounds i true) with
        | nil => rfl
        | cons j l =>
          have hj : j ∈ Region.ready .any ops (listed.setIfInBounds i true) := by rw [hr]; exact List.mem_cons_self ..
          obtain ⟨hu, x, hx, -⟩ := mem_ready.1 hj
          have hjl : j < (listed.setIfInBounds i true).size := by rw [st'.lsize]; exact (Array.getElem?_eq_some_iff.1 hx).1
          have hmem : false ∈ (listed.setIfInBounds i true).toList := by
            obtain ⟨l2, hl2⟩ : ∃ l2, l2 = listed.setIfInBounds i true := ⟨_, rfl⟩
            rw [← hl2] at hu hjl ⊢
            have h2 : l2[j] = false := by simpa [Array.getD, hjl] using hu
            rw [← h2]
            exact Array.mem_toList_iff.2 (Array.getElem_mem hjl)
          have : false ∈ (listed.setIfInBounds i true).toList.filter (! ·) := List.mem_filter.2 ⟨hmem, rfl⟩
          rw [List.length_eq_zero_iff.1 hz] at this; cases this
      obtain ⟨m1, m2, m3⟩ := monoB_spec hB ho
      obtain ⟨q1, q2⟩ := planB_spec hP ho
      have hio : i < ops.size := (Array.getElem?_eq_some_iff.1 ho).1
      obtain ⟨al, hw, hs, hdf, h1, h2⟩ := lex_reach hrefl hB hn st h i (Nat.le_of_lt hio)
      have halno : ∀ t ∈ o.looksAt ops, srcOf ops o t = none → al.eval (.tmp t) = a0.eval (.tmp t) := by
        intro t ht hsr
        refine h2 t (fun j x hj hx hxt => ?_)
        rcases (m3 j x t hx hxt).2 ht with h | h | h
        · rw [hsr] at h; cases h
        · omega
        · unfold waitsFor at h
          rw [Array.any_eq_true] at h
          obtain ⟨k, hk, h⟩ := h
          simp only [Bool.and_eq_true, beq_iff_eq] at h
          have := (monoB_spec hB hx).1 x.after[k] (Array.getElem_mem hk) h.1
          omega
      have hag : ∀ t ∈ o.looksAt ops, a.eval (.tmp t) = al.eval (.tmp t) := by
        intro t ht
        cases hsr : srcOf ops o t with
        | none => rw [halno t ht hsr]; exact st.olds hB ho hun ht hsr
        | some j =>
          obtain ⟨e, he, hb, rfl, x, hx, hxt⟩ := srcOf_spec hsr
          exact (h1 e.on x t (m1 e he hb) hx hxt (hall e he hb)).symm
      have hkn : Know ops plan o al w := by
        intro t ht j R hsr hpl
        rw [← hag t ht]
        obtain ⟨e, he, hb, rfl, x, hx, hxt⟩ := srcOf_spec hsr
        have := st.new e.on x t hx (hall e he hb) hxt
        unfold Holds at this
        rw [hpl] at this
        exact this
      have hkl : i < ops.toList.length := by simpa using hio
      have hdrop : ops.toList.drop i = o :: ops.toList.drop (i + 1) := by
        rw [List.drop_eq_getElem_cons hkl]
        have := (Array.getElem?_eq_some_iff.1 ho).2
        simp [this]
      rw [hdrop] at hw
      cases hp : plan.drop i with
      | nil => rw [hp] at hw; exact hw.elim
      | cons s ps =>
        rw [hp] at hw
        have hpk : plan[i]? = some s := by have := congrArg List.head? hp; simpa using this
        unfold wpOp
        simp only [ho]
        cases s with
        | pure =>
          obtain ⟨c, hc, -⟩ := hw
          have hHc : ∀ t, o.dst = some t → Holds P ops L plan n a0 w0.drew i o (a.put o.dst c) w c := by
            intro td htd
            unfold Holds
            rw [hpk]
            intro b hb hbag
            refine PureAt.congr hs hb q1 q2 (fun t ht => ?_) hc
            rw [hbag t ht]
            unfold snap
            cases hsr : srcOf ops o t with
            | none => exact halno t ht hsr
            | some j =>
              obtain ⟨e, he, hb', rfl, x, hx, hxt⟩ := srcOf_spec hsr
              have hne := (m3 e.on x t hx hxt).1.resolve_left (fun h => by have := m1 e he hb'; omega)
              rw [← hag t ht]
              cases hd : o.dst with
              | none => rfl
              | some u => exact (eval_put_other (fun h => hne (by rw [hd, h]))).symm
          have hca := PureAt.congr hs st.size q1 q2 (fun t ht => (hag t ht).symm) hc
          unfold PureAt at hca
          split
          · rename_i hwt
            rw [if_pos hwt] at hca
            refine .inl ?_
            unfold Oper.wp
            rw [hca w st.later]
            exact hnext c w (hrefl w) hHc
          · rename_i hwt
            rw [if_neg hwt] at hca
            subst hca
            exact hnext _ w (hrefl w) hHc
        | pin c =>
          have hdo := does_of_wpList hs st.size q1 q2 m2 hag (hw.1 w st.later hkn)
          split
          · rename_i hwt
            rw [if_pos hwt] at hdo
            exact .inl (wp_of_does hdo fun v w' hL hv => hnext v w' hL fun t ht => by unfold Holds; rw [hpk]; exact hv t ht)
          · rename_i hwt
            rw [if_neg hwt] at hdo
            exact hnext _ w (hrefl w) fun t ht => by unfold Holds; rw [hpk]; exact hdo.2 t ht
        | any R =>
          have hdo := does_of_wpList hs st.size q1 q2 m2 hag (hw.1 w st.later hkn)
          split
          · rename_i hwt
            rw [if_pos hwt] at hdo
            exact .inl (wp_of_does hdo fun v w' hL hv => hnext v w' hL fun t ht => by unfold Holds; rw [hpk]; exact hv t ht)
          · rename_i hwt
            rw [if_neg hwt] at hdo
            exact hnext _ w (hrefl w) fun t ht => by unfold Holds; rw [hpk]; exact hdo.2 t ht
  refine wp_region_any hm (go ops.size _ a0 _ ⟨hrefl _, rfl, hn, by simp, ?_, ?_, fun _ _ => rfl⟩ ?_ ?_)
  · intro j o _ hl
    simp [Array.getD] at hl
  · intro j o t _ hl
    simp [Array.getD] at hl
  · intro h0
    unfold Region.ready; rw [h0]; rfl
  · intro i _
    exact Nat.le_trans (List.length_filter_le _ _) (by simp)

section
variable {plan : List Sp} {w1 : World} {QF : Act → World → Prop} {o : Oper} {l : List Oper} {ps : List Sp} {a : Act}
theorem wm_skip (hw : Region.wanted o (yielded ops a.tmps) = false) (h : ∀ K : Act → Prop, (∀ a, WM P ops L plan w1 QF l ps a → K a) → K (a.put o.dst undef)) : WM P ops L plan w1 QF (o :: l) (.pure :: ps) a :=
  ⟨undef, by unfold PureAt; rw [if_neg (by rw [hw]; exact Bool.false_ne_true)], h _ fun _ h => h⟩
theorem wm_move {x : Operand} (hw : Region.wanted o (yielded ops a.tmps) = true) (ho : o.op = .move x ∨ o.op = .assign x) (h : ∀ K : Act → Prop, (∀ a, WM P ops L plan w1 QF l ps a → K a) → K (a.put o.dst (a.eval x))) : WM P ops L plan w1 QF (o :: l) (.pure :: ps) a :=
  ⟨a.eval x, by
    unfold PureAt; rw [if_pos hw]
    intro w _
    rcases ho with ho | ho
    · exact run_move x ho w
    · exact run_assign x ho w, h _ fun _ h => h⟩
theorem wm_run (hw : Region.wanted o (yielded ops a.tmps) = true) (h : ∀ K : Act → Prop, (∀ a, WM P ops L plan w1 QF l ps a → K a) → ∃ c, (∀ w, L w1 w → (execOp a.eval o).run P w = .ok (.value c) w) ∧ K (a.put o.dst c)) :
    WM P ops L plan w1 QF (o :: l) (.pure :: ps) a := by
  obtain ⟨c, h1, h2⟩ := h _ fun _ h => h
  exact ⟨c, by unfold PureAt; rw [if_pos hw]; exact h1, h2⟩
theorem wm_pin {c : Value} (h : ∀ K : Act → Prop, (∀ a, WM P ops L plan w1 QF l ps a → K a) → (∀ w, L w1 w → Know ops plan o a w → wpList P ops (QR L o (fun _ v => v = c) a w) [o] a w) ∧ K (a.put o.dst c)) :
    WM P ops L plan w1 QF (o :: l) (.pin c :: ps) a := h _ (fun _ h => h)
theorem wm_any {Rv : World → Value → Prop} (h : ∀ K : Act → Prop, (∀ a, WM P ops L plan w1 QF l ps a → K a) → (∀ w, L w1 w → Know ops plan o a w → wpList P ops (QR L o Rv a w) [o] a w) ∧ ∀ v, K (a.put o.dst v)) :
    WM P ops L plan w1 QF (o :: l) (.any Rv :: ps) a := h _ (fun _ h => h)
theorem wm_end (h : ∀ w, L w1 w → KnowAll ops plan a w → QF a w) : WM P ops L plan w1 QF [] [] a := h

theorem Know.get {w : World} (hk : Know ops plan o a w) (t j : Nat) {Rv : World → Value → Prop} (h : ((o.looksAt ops).contains t && srcOf ops o t == some j) = true) (hp : plan[j]? = some (.any Rv)) : Rv w (a.eval (.tmp t)) := by
  simp only [Bool.and_eq_true, List.contains_eq_mem, decide_eq_true_eq, beq_iff_eq] at h
  exact hk t h.1 j Rv h.2 hp
theorem KnowAll.get {w : World} (hk : KnowAll ops plan a w) (j t : Nat) {Rv : World → Value → Prop} (h : ((ops[j]?).bind (·.dst) == some t) = true) (hp : plan[j]? = some (.any Rv)) : Rv w (a.eval (.tmp t)) := by
  rw [beq_iff_eq] at h
  obtain ⟨x, hx, hxt⟩ := Option.bind_eq_some_iff.1 h
  exact hk j x t Rv hx hxt hp

theorem qr_pin {c : Value} {t : Tmp} {m : List Value} {d : List Deferred} {w w' : World} (hd : o.dst = some t) (hv : m[t]? = some c) (hdef : d = a.defers) (hL : L w w') :
    QR L o (fun _ v => v = c) a w .normal ⟨m.toArray, d⟩ w' := ⟨rfl, hdef, hL, fun u hu => by
  rw [hd] at hu; cases hu
  simp [Act.eval, hv]⟩
theorem qr_any {Rv : World → Value → Prop} {t : Tmp} {v : Value} {m : List Value} {d : List Deferred} {w w' : World} (hd : o.dst = some t) (hv : m[t]? = some v) (hdef : d = a.defers) (hL : L w w') (hR : Rv w' v) :
    QR L o Rv a w .normal ⟨m.toArray, d⟩ w' := ⟨rfl, hdef, hL, fun u hu => by
  rw [hd] at hu; cases hu
  simpa [Act.eval, hv] using hR⟩
end

/-- Later: only new memory. -/
abbrev Later (w w' : World) : Prop := Below w.heap.size w w'
theorem Later.tr (a b c : World) (h : Later a b) (k : Later b c) : Later a c := h.trans (k.mono h.size)

end
end Go.Proofs.Ytbndegkgpoemnaa
