/-
  AgendaOrder: two agendas side by side; lists put in whatever order.
-/
import Derived.Test.YtbpgiahbnijidaaSame
namespace Go.Proofs.Ytbpgiahbnijidaa
open Go.RowKit Go.Shelf
set_option linter.unusedVariables false
set_option linter.unusedSimpArgs false

theorem mem_insP {ts : List Tk} {t u : Tk} : u ∈ insP ts t ↔ u = t ∨ u ∈ ts := by
  rw [(insP_perm ts t).mem_iff, List.mem_cons]
theorem cmpT_irr {a b : Tk} (h1 : cmpT a b < 0) (h2 : cmpT b a < 0) : False := by
  rw [cmpT_lt] at *; omega
/-- Two lists in order that have the same tasks are one. -/
theorem srt_ext : ∀ {xs ys : List Tk}, Srt xs → Srt ys → (∀ t, t ∈ xs ↔ t ∈ ys) → xs = ys
  | [], [], _, _, _ => rfl
  | [], y :: ys, _, _, h => absurd ((h y).2 (by simp)) (by simp)
  | x :: xs, [], _, _, h => absurd ((h x).1 (by simp)) (by simp)
  | x :: xs, y :: ys, hx, hy, h => by
    have hxr : ∀ t ∈ xs, cmpT x t < 0 := fun t ht => List.rel_of_pairwise_cons hx ht
    have hyr : ∀ t ∈ ys, cmpT y t < 0 := fun t ht => List.rel_of_pairwise_cons hy ht
    have e : x = y := by
      rcases List.mem_cons.1 ((h x).1 (by simp)) with e | e
      · exact e
      · rcases List.mem_cons.1 ((h y).2 (by simp)) with e2 | e2
        · exact e2.symm
        · exact absurd (hxr y e2) (fun h2 => cmpT_irr (hyr x e) h2)
    subst e
    congr 1
    refine srt_ext (List.Pairwise.of_cons hx) (List.Pairwise.of_cons hy) fun t => ⟨fun ht => ?_, fun ht => ?_⟩
    · rcases List.mem_cons.1 ((h t).1 (by simp [ht])) with rfl | h2
      · exact absurd (hxr t ht) (fun h2 => cmpT_irr h2 h2)
      · exact h2
    · rcases List.mem_cons.1 ((h t).2 (by simp [ht])) with rfl | h2
      · exact absurd (hyr t ht) (fun h2 => cmpT_irr h2 h2)
      · exact h2
/-- The task that stands for l's i-th. -/
def nrm (t : Tk) (i x y : Int) : Tk := ⟨i, x, y, t.sum, t.track, t.ok⟩
/-- F's first k tasks, in order. -/
structure Puts (F : Nat → Tk) (k : Nat) (ts : List Tk) : Prop where
  srt : Srt ts
  len : ts.length = k
  mem : ∀ t, t ∈ ts ↔ ∃ i, i < k ∧ t = F i
theorem Puts.nil (F : Nat → Tk) : Puts F 0 [] := ⟨srt_nil, rfl, fun t => by simp⟩
theorem Puts.put {F : Nat → Tk} {k : Nat} {ts : List Tk} (h : Puts F k ts) (hb : ¬ BadT (F k)) (hk : k < 12) (hn : ∀ i, i < k → (F i).name ≠ (F k).name) : putE ts (F k) = 0 ∧ Puts F (k + 1) (putL ts (F k)) := by
  have hn' : ∀ u ∈ ts, u.name ≠ (F k).name := fun u hu => by
    obtain ⟨i, hi, rfl⟩ := (h.mem u).1 hu
    exact hn i hi
  have he : putE ts (F k) = 0 := putE_ok hb hn' (by rw [h.len]; exact hk)
  refine ⟨he, ?_⟩
  rw [putL_ok he]
  refine ⟨srt_insP h.srt hn', by rw [insP_len, h.len], fun t => ?_⟩
  rw [mem_insP, h.mem]
  constructor
  · rintro (rfl | ⟨i, hi, rfl⟩)
    · exact ⟨k, by omega, rfl⟩
    · exact ⟨i, by omega, rfl⟩
  · rintro ⟨i, hi, rfl⟩
    by_cases e : i = k
    · subst e; exact .inl rfl
    · exact .inr ⟨i, by omega, rfl⟩
/-- One place on, from the end to the beginning. -/
def rot (L n i : Nat) : Nat := if i + n < L then i + n else i + n - L
theorem rot_mod {L n i : Nat} (hn : n < L) (hi : i < L) : (i + n) % L = rot L n i := by
  unfold rot
  split
  · exact Nat.mod_eq_of_lt (by assumption)
  · rw [Nat.mod_eq_sub_mod (by omega)]; exact Nat.mod_eq_of_lt (by omega)
theorem rot_lt {L n i : Nat} (hn : n < L) (hi : i < L) : rot L n i < L := by unfold rot; split <;> omega
theorem rot_inj {L n i j : Nat} (hn : n < L) (hi : i < L) (hj : j < L) (h : rot L n i = rot L n j) : i = j := by
  unfold rot at h; split at h <;> split at h <;> omega
theorem rot_onto {L n j : Nat} (hn : n < L) (hj : j < L) : ∃ i, i < L ∧ rot L n i = j := by
  by_cases h : n ≤ j
  · exact ⟨j - n, by omega, by unfold rot; rw [if_pos (by omega)]; omega⟩
  · exact ⟨j + L - n, by omega, by unfold rot; rw [if_neg (by omega)]; omega⟩
theorem puts_eq {F : Nat → Tk} {L n : Nat} {xs ys : List Tk} (hn : n < L) (hx : Puts F L xs) (hy : Puts (fun i => F (rot L n i)) L ys) : ys = xs :=
  srt_ext hy.srt hx.srt fun t => by
    rw [hx.mem, hy.mem]
    constructor
    · rintro ⟨i, hi, rfl⟩; exact ⟨_, rot_lt hn hi, rfl⟩
    · rintro ⟨j, hj, rfl⟩
      obtain ⟨i, hi, e⟩ := rot_onto hn hj
      exact ⟨i, hi, by rw [e]⟩

/-- Two agendas, each in its own places. -/
structure Two (w0 : World) (g1 g2 : Nat) (xs ys : List Tk) (w : World) : Prop where
  old : Below w0.heap.size w0 w
  ag : ∃ v1 v2, AgA w0.heap.size g1 v1 xs w ∧ AgA w0.heap.size g2 v2 ys w ∧ ∀ k, v1.ownBlock = some k → v2.ownBlock ≠ some k
  ne : g1 ≠ g2
theorem own_ne_g {B g g2 : Nat} {v v2 : Value} {ts ys : List Tk} {w : World} (h : AgA B g v ts w) (h2 : AgA B g2 v2 ys w) : v.ownBlock ≠ some g2 := fun e => by
  obtain ⟨c, hc⟩ := h.own.kind e
  exact absurd (kinds_ne hc h2.at_) (by decide)
section
variable {w0 w w1 : World} {g1 g2 : Nat} {xs ys : List Tk}
theorem Two.one (h : Two w0 g1 g2 xs ys w) : AgSt w0 g1 xs w := by
  obtain ⟨hB, ⟨v1, v2, h1, h2, hd⟩, hne⟩ := h
  exact ⟨v1, h1, hB⟩
theorem Two.other (h : Two w0 g1 g2 xs ys w) : AgSt w0 g2 ys w := by
  obtain ⟨hB, ⟨v1, v2, h1, h2, hd⟩, hne⟩ := h
  exact ⟨v2, h2, hB⟩
theorem Two.swap (h : Two w0 g1 g2 xs ys w) : Two w0 g2 g1 ys xs w := by
  obtain ⟨hB, ⟨v1, v2, h1, h2, hd⟩, hne⟩ := h
  exact ⟨hB, ⟨v2, v1, h2, h1, fun k e1 e2 => hd k e2 e1⟩, hne.symm⟩
theorem Two.later (h : Two w0 g1 g2 xs ys w) (hb : Below w.heap.size w w1) : Two w0 g1 g2 xs ys w1 := by
  obtain ⟨hB, ⟨v1, v2, h1, h2, hd⟩, hne⟩ := h
  exact ⟨hB.trans (hb.mono hB.size), ⟨v1, v2, h1.later hb, h2.later hb, hd⟩, hne⟩
/-- The other agenda is as it was, and so is what was made since. -/
theorem Two.put (T : Tk) (h : Two w0 g1 g2 xs ys w) (hb : Below w.heap.size w w1) (hS : Srt xs) (hl : xs.length ≤ 12) :
    Calls Try.prog 12 #[.pointer (some ⟨g1, 0, none⟩), .agg (tc T).toArray] w1 fun e w' => e = .returned (.int .i64 (putE xs T)) ∧ Two w0 g1 g2 (putL xs T) ys w' ∧ ∀ k, w.heap.size ≤ k → k < w1.heap.size → w'.heap[k]? = w1.heap[k]? := by
  obtain ⟨hB, ⟨v1, v2, h1, h2, hd⟩, hne⟩ := h
  have hs := hb.size
  have hB1 : Below w0.heap.size w0 w1 := hB.trans (hb.mono hB.size)
  have hA1 := h1.later hb
  have hA2 := h2.later hb
  refine (agenda_Put _ g1 v1 xs T w1 hA1 hS hl hB1.size).mono fun e w' ⟨he, v3, hA3, ho, hfr⟩ => ⟨he, ⟨?_, ⟨v3, v2, hA3, ?_, fun k e1 e2 => ?_⟩, hne⟩, fun k k1 k2 => ?_⟩
  · exact only_below hA1 rfl hB1 hB1.size ho
  · refine hA2.of (ho.block g2 hA2.lt ?_ (fun h => h)) (fun k hk => ho.block k (hA2.own.block hk).2 ?_ (fun h => h))
    · rintro (e | e)
      · exact hne e.symm
      · exact own_ne_g hA1 hA2 e
    · rintro (e | e)
      · exact own_ne_g hA2 hA1 (by rw [← e]; exact hk)
      · exact hd k e hk
  · rcases hfr k e1 with e | e
    · exact hd k e e2
    · have := (hA2.own.block e2).2; omega
  · refine ho.block k k2 ?_ (fun h => h)
    rintro (rfl | e)
    · have := h1.lt; omega
    · have := (h1.own.block e).2; omega
theorem st_all (h : AgSt w0 g1 xs w) (hl : xs.length ≤ 12) : Calls Try.prog 19 #[.pointer (some ⟨g1, 0, none⟩)] w fun e w' => ∃ v', e = .returned (.tuple #[v', .bool true]) ∧ OwnT w.heap.size v' xs w' ∧ Below w.heap.size w w' := by
  obtain ⟨v, hA, hB⟩ := h
  exact lawAll _ g1 v xs w hA hl
theorem st_due_new (now most : Int) (h : AgSt w0 g1 xs w) (hb : Below w.heap.size w w1) (hl : xs.length ≤ 12) : Calls Try.prog 17 #[.pointer (some ⟨g1, 0, none⟩), .int .i64 now, .int .i64 most] w1 fun e w' => ∃ v', e = .returned v' ∧ RdT w' v' (dueL xs now most) ∧ AgSt w0 g1 (xs.drop (dueL xs now most).length) w' ∧ ∀ k, w.heap.size ≤ k → k < w1.heap.size → w'.heap[k]? = w1.heap[k]? := by
  obtain ⟨v, hA, hB⟩ := h
  have hs := hb.size
  have hB1 : Below w0.heap.size w0 w1 := hB.trans (hb.mono hB.size)
  have hA1 := hA.later hb
  refine (agenda_Due _ g1 v xs now most w1 hA1 hl hB1.size).mono fun e w' ⟨v', he, ho, hl⟩ => ⟨v', he, ho.reads, AgSt.left hA1 hB1 hl, fun k k1 k2 => ?_⟩
  obtain ⟨v2, hA2, hon, -⟩ := hl
  refine hon.block k k2 ?_ (fun h => h)
  rintro (rfl | e)
  · have := hA.lt; omega
  · have := (hA.own.block e).2; omega
end
end Go.Proofs.Ytbpgiahbnijidaa
