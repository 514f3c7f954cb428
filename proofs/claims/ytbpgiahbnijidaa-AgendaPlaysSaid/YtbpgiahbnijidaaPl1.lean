/-
  AgendaPlays: the acts that come in; an agenda and the reference's side by side.
-/
import Derived.Test.YtbpgiahbnijidaaRef5
import Derived.Test.YtbpgiahbnijidaaOpT
namespace Go.Proofs.Ytbpgiahbnijidaa
open Go.ChangeShapes Go.WideShapes Go.ChangeAt Go.RowKit Go.Deep
set_option linter.unusedVariables false
set_option linter.unusedSimpArgs false

/-- An act. -/
structure Ac where
  kind : Int
  t : Tk
  n : Int
  most : Int
def acc (x : Ac) : List Value := .int .i64 x.kind :: (tc x.t ++ [.int .i64 x.n, .int .i64 x.most])
theorem acc_len (x : Ac) : (acc x).length = 39 := by simp [acc, tc_len]
instance : Inhabited Ac := ⟨⟨0, mkT 0 0, 0, 0⟩⟩
/-- Acts that are only read. -/
def RdAc (w : World) (v : Value) (l : List Ac) : Prop :=
  ∃ ao cap, v = .slice ao l.length cap ∧ ∀ i (hi : i < l.length), ∃ b off, ao = some ⟨b, off, none⟩ ∧ w.rangeAt b (off + i * 39) (acc l[i])
theorem fits_ac {cs : List Value} (f : Fits (some .i64 :: some .i64 :: some .i64 :: some .i64 :: (List.replicate 32 (some .u8) ++ [some .i64, some .i64, some .i64])) cs) : ∃ x : Ac, cs = acc x := by
  obtain ⟨k, c0, rfl, -, f⟩ := fits_int f
  obtain ⟨a, c1, rfl, -, f⟩ := fits_int f
  obtain ⟨b, c2, rfl, -, f⟩ := fits_int f
  obtain ⟨c, c3, rfl, -, f⟩ := fits_int f
  obtain ⟨l, c4, rfl, hl, f⟩ := fits_u8a 32 f
  obtain ⟨tr, c5, rfl, -, f⟩ := fits_int f
  obtain ⟨n, c6, rfl, -, f⟩ := fits_int f
  obtain ⟨m, c7, rfl, -, f⟩ := fits_int f
  obtain rfl := fits_nil f
  exact ⟨⟨k, ⟨a, b, c, l, tr, hl⟩, n, m⟩, by simp [acc, tc]⟩
section
variable {H : Type} {enc : TypeId × Value → H} {w : World} {base : Nat} {held : Bool}
theorem open_RdAc {v : Value} {d : DataW H} {p : List MemPlace} {r : Reach} {b0 : Nat}
    (hv : Value.okWide Try.prog w r b0 22 v) (h : DataW.Trod enc Try.prog w base (fun _ => true) held 22 v d p) : ∃ l : List Ac, RdAc w v l ∧ l.length ≤ maxLen := by
  have hl : leaves Try.prog 5 34 = some (some .i64 :: some .i64 :: some .i64 :: some .i64 :: (List.replicate 32 (some .u8) ++ [some .i64, some .i64, some .i64])) := by kernel_rfl
  obtain ⟨ls, hls⟩ : ∃ ls, ls = (some IntKind.i64 :: some .i64 :: some .i64 :: some .i64 :: (List.replicate 32 (some .u8) ++ [some .i64, some .i64, some .i64])) := ⟨_, rfl⟩
  have hll : ls.length = 39 := by rw [hls]; rfl
  rw [← hls] at hl
  rcases open_flats (e := 34) 5 Try.underlying22 hl (by rw [hll]; kernel_rfl) hv h with rfl | ⟨a, len, cap, C, rfl, hle, hm, hC⟩
  · exact ⟨[], ⟨none, 0, rfl, fun i hi => by simp at hi⟩, by simp⟩
  · obtain ⟨T, hT⟩ := choose_lt (α := Ac) (p := fun i x => C i = acc x) (fun i hi => fits_ac (by have := (hC i hi).1; rwa [hls] at this))
    rw [hll] at hC
    have hlen : ((List.range len).map T).length = len := by simp
    refine ⟨(List.range len).map T, ⟨some a, cap, by rw [hlen], fun i hi => ?_⟩, by rw [hlen]; omega⟩
    rw [hlen] at hi
    have g0 := (hC 0 (by omega)).2 0 (by omega)
    rw [hT 0 (by omega)] at g0
    have hsp := World.cell?_spot (show w.cell? (a.add (0 * 39 + 0)) = some (.int .i64 (T 0).kind) by rw [g0]; simp [acc])
    obtain ⟨blk, off, spot⟩ := a
    have hspot : spot = none := by simpa [Addr.add] using hsp
    subst hspot
    refine ⟨blk, off, rfl, fun j u hj => ?_⟩
    have hj39 : j < 39 := by have := (List.getElem?_eq_some_iff.1 hj).1; rwa [acc_len] at this
    have hc := (hC i (by omega)).2 j hj39
    rw [hT i (by omega)] at hc
    simp only [List.getElem_map, List.getElem_range] at hj
    rw [hj] at hc
    have e : w.cell? ⟨blk, off + i * 39 + j, none⟩ = w.cell? (Addr.add ⟨blk, off, none⟩ (i * 39 + j)) := by
      rw [Nat.add_assoc]
      generalize i * 39 + j = q
      by_cases hq0 : q = 0
      · subst hq0; simp [Addr.add]
      · simp [Addr.add, hq0]
    rw [e]; exact hc
end
/-- The agenda and the reference's, each in its own places, those below two bounds. -/
structure Both (w0 : World) (g yb : Nat) (xs ys : List Tk) (nx ny : Nat) (w : World) : Prop where
  old : Below w0.heap.size w0 w
  ag : ∃ v1 v2, AgA w0.heap.size g v1 xs w ∧ RefA w0.heap.size yb v2 ys w ∧ (∀ k, v1.ownBlock = some k → v2.ownBlock ≠ some k) ∧ (∀ k, v1.ownBlock = some k → k < nx) ∧ (∀ k, v2.ownBlock = some k → k < ny)
  gx : g < nx
  gy : yb < ny
section
variable {w0 w w1 : World} {g yb nx ny : Nat} {xs ys : List Tk}
theorem Both.now (h : Both w0 g yb xs ys nx ny w) : Both w0 g yb xs ys w.heap.size w.heap.size w := by
  obtain ⟨hB, ⟨v1, v2, h1, h2, hd, -, -⟩, -, -⟩ := h
  exact ⟨hB, ⟨v1, v2, h1, h2, hd, fun k hk => (h1.own.block hk).2, fun k hk => (h2.own.block hk).2⟩, h1.lt, h2.at_.lt⟩
theorem Both.later (h : Both w0 g yb xs ys nx ny w) (hb : Below w.heap.size w w1) : Both w0 g yb xs ys nx ny w1 := by
  obtain ⟨hB, ⟨v1, v2, h1, h2, hd, e1, e2⟩, e3, e4⟩ := h
  exact ⟨hB.trans (hb.mono hB.size), ⟨v1, v2, h1.later hb, h2.later hb, hd, e1, e2⟩, e3, e4⟩
theorem x_ne_yb {B : Nat} {v1 v2 : Value} (h1 : AgA B g v1 xs w) (h2 : RefA B yb v2 ys w) : yb ≠ g ∧ v1.ownBlock ≠ some yb ∧ v2.ownBlock ≠ some g := by
  refine ⟨fun e => ?_, fun e => ?_, fun e => ?_⟩
  · subst e; exact absurd (kinds_ne h2.at_ h1.at_) (by decide)
  · obtain ⟨c, hc⟩ := h1.own.kind e; exact absurd (kinds_ne hc h2.at_) (by decide)
  · obtain ⟨c, hc⟩ := h2.own.kind e; exact absurd (kinds_ne hc h1.at_) (by decide)
/-- What a call on the agenda leaves. -/
theorem Both.x (hB : Below w0.heap.size w0 w) {v1 v2 : Value} (h1 : AgA w0.heap.size g v1 xs w) (h2 : RefA w0.heap.size yb v2 ys w) (hd : ∀ k, v1.ownBlock = some k → v2.ownBlock ≠ some k) (e1 : ∀ k, v1.ownBlock = some k → k < nx) (e2 : ∀ k, v2.ownBlock = some k → k < ny) (e3 : g < nx) (e4 : yb < ny) {xs' : List Tk} {w' : World} (hl : Left2 w0.heap.size g v1 xs' w w') :
    Both w0 g yb xs' ys w'.heap.size ny w' ∧ ∀ k, nx ≤ k → k < w.heap.size → w'.heap[k]? = w.heap[k]? := by
  obtain ⟨v3, hA3, ho, hfr⟩ := hl
  obtain ⟨n1, n2, n3⟩ := x_ne_yb h1 h2
  refine ⟨⟨only_below h1 rfl hB hB.size ho, ⟨v3, v2, hA3, h2.of (ho.block yb h2.at_.lt ?_ (fun h => h)) (fun k hk => ho.block k (h2.own.block hk).2 ?_ (fun h => h)), fun k k1 k2 => ?_, fun k hk => (hA3.own.block hk).2, e2⟩, hA3.lt, e4⟩, fun k k1 k2 => ho.block k k2 ?_ (fun h => h)⟩
  · rintro (e | e)
    · exact n1 e
    · exact n2 e
  · rintro (e | e)
    · exact n3 (by rw [← e]; exact hk)
    · exact hd k e hk
  · rcases hfr k k1 with e | e
    · exact hd k e k2
    · have := (h2.own.block k2).2; omega
  · rintro (e | e)
    · omega
    · have := e1 k e; omega
/-- What a call on the reference's leaves. -/
theorem Both.y (hB : Below w0.heap.size w0 w) {v1 v2 : Value} (h1 : AgA w0.heap.size g v1 xs w) (h2 : RefA w0.heap.size yb v2 ys w) (hd : ∀ k, v1.ownBlock = some k → v2.ownBlock ≠ some k) (e1 : ∀ k, v1.ownBlock = some k → k < nx) (e2 : ∀ k, v2.ownBlock = some k → k < ny) (e3 : g < nx) (e4 : yb < ny) {ys' : List Tk} {w' : World} (hl : LeftR w0.heap.size yb v2 ys' w w') :
    Both w0 g yb xs ys' nx w'.heap.size w' ∧ ∀ k, ny ≤ k → k < w.heap.size → w'.heap[k]? = w.heap[k]? := by
  obtain ⟨v3, hA3, ho, hfr⟩ := hl
  obtain ⟨n1, n2, n3⟩ := x_ne_yb h1 h2
  have hlo := h2.lo
  refine ⟨⟨hB.trans (ho.below hB.size (fun k hk => by rw [hk]; exact hlo) (fun k hk => hk.elim)), ⟨v1, v3, h1.of (ho.block g h1.lt (fun e => n1 e.symm) (fun h => h)) (fun k hk => ho.block k (h1.own.block hk).2 ?_ (fun h => h)), hA3, fun k k1 k2 => ?_, e1, fun k hk => (hA3.own.block hk).2⟩, e3, hA3.at_.lt⟩, fun k k1 k2 => ho.block k k2 (fun e => by omega) (fun h => h)⟩
  · intro e; exact n2 (by rw [← e]; exact hk)
  · rcases hfr k k2 with e | e
    · exact hd k k1 e
    · have := (h1.own.block k1).2; omega
theorem Both.xput (T : Tk) (h : Both w0 g yb xs ys nx ny w) (hS : Srt xs) (hl : xs.length ≤ 12) : Calls Try.prog 12 #[.pointer (some ⟨g, 0, none⟩), .agg (tc T).toArray] w fun e w' => e = .returned (.int .i64 (putE xs T)) ∧ Both w0 g yb (putL xs T) ys w'.heap.size ny w' := by
  obtain ⟨hB, ⟨v1, v2, h1, h2, hd, e1, e2⟩, e3, e4⟩ := h
  exact (agenda_Put _ g v1 xs T w h1 hS hl hB.size).mono fun e w' ⟨he, hl⟩ => ⟨he, (Both.x hB h1 h2 hd e1 e2 e3 e4 hl).1⟩
theorem Both.yput (T : Tk) (h : Both w0 g yb xs ys nx ny w) (hl : ys.length ≤ 12) : Calls Try.prog 13 #[.pointer (some ⟨yb, 0, none⟩), .agg (tc T).toArray] w fun e w' => e = .returned (.int .i64 (putE ys T)) ∧ Both w0 g yb xs (putL ys T) nx w'.heap.size w' := by
  obtain ⟨hB, ⟨v1, v2, h1, h2, hd, e1, e2⟩, e3, e4⟩ := h
  exact (ref_Put _ yb v2 ys T w h2 hl hB.size).mono fun e w' ⟨he, hl⟩ => ⟨he, (Both.y hB h1 h2 hd e1 e2 e3 e4 hl).1⟩
theorem Both.xcancel (name : Int) (h : Both w0 g yb xs ys nx ny w) (hl : xs.length ≤ 12) : Calls Try.prog 14 #[.pointer (some ⟨g, 0, none⟩), .int .i64 name] w fun e w' => e = .returned (.bool (decide (0 ≤ idxN xs name))) ∧ Both w0 g yb (delN xs name) ys w'.heap.size ny w' := by
  obtain ⟨hB, ⟨v1, v2, h1, h2, hd, e1, e2⟩, e3, e4⟩ := h
  exact (agenda_Cancel _ g v1 xs name w h1 hl hB.size).mono fun e w' ⟨he, hl⟩ => ⟨he, (Both.x hB h1 h2 hd e1 e2 e3 e4 hl).1⟩
theorem Both.ycancel (name : Int) (h : Both w0 g yb xs ys nx ny w) (hl : ys.length ≤ 12) : Calls Try.prog 15 #[.pointer (some ⟨yb, 0, none⟩), .int .i64 name] w fun e w' => e = .returned (.bool (decide (0 ≤ idxN ys name))) ∧ Both w0 g yb xs (delN ys name) nx w'.heap.size w' := by
  obtain ⟨hB, ⟨v1, v2, h1, h2, hd, e1, e2⟩, e3, e4⟩ := h
  exact (ref_Cancel _ yb v2 ys name w h2 hl hB.size).mono fun e w' ⟨he, hl⟩ => ⟨he, (Both.y hB h1 h2 hd e1 e2 e3 e4 hl).1⟩
theorem Both.xdue (now most : Int) (h : Both w0 g yb xs ys nx ny w) (hl : xs.length ≤ 12) : Calls Try.prog 17 #[.pointer (some ⟨g, 0, none⟩), .int .i64 now, .int .i64 most] w fun e w' => ∃ v', e = .returned v' ∧ OwnT w.heap.size v' (dueL xs now most) w' ∧ Both w0 g yb (xs.drop (dueL xs now most).length) ys w'.heap.size ny w' ∧ ∀ k, nx ≤ k → k < w.heap.size → w'.heap[k]? = w.heap[k]? := by
  obtain ⟨hB, ⟨v1, v2, h1, h2, hd, e1, e2⟩, e3, e4⟩ := h
  exact (agenda_Due _ g v1 xs now most w h1 hl hB.size).mono fun e w' ⟨v', he, ho, hl⟩ => ⟨v', he, ho, Both.x hB h1 h2 hd e1 e2 e3 e4 hl⟩
theorem Both.ydue (now most : Int) (h : Both w0 g yb xs ys nx ny w) (hl : ys.length ≤ 12) : Calls Try.prog 18 #[.pointer (some ⟨yb, 0, none⟩), .int .i64 now, .int .i64 most] w fun e w' => ∃ v', e = .returned v' ∧ OwnT w.heap.size v' (dueL ys now most) w' ∧ Both w0 g yb xs (ys.drop (dueL ys now most).length) nx w'.heap.size w' ∧ ∀ k, ny ≤ k → k < w.heap.size → w'.heap[k]? = w.heap[k]? := by
  obtain ⟨hB, ⟨v1, v2, h1, h2, hd, e1, e2⟩, e3, e4⟩ := h
  exact (ref_Due _ yb v2 ys now most w h2 hl hB.size).mono fun e w' ⟨v', he, ho, hl⟩ => ⟨v', he, ho, Both.y hB h1 h2 hd e1 e2 e3 e4 hl⟩
end
/-- What a list of tasks keeps to. -/
structure Good (ts : List Tk) : Prop where
  srt : Srt ts
  len : ts.length ≤ 12
theorem Good.put {ts : List Tk} (h : Good ts) (T : Tk) : Good (putL ts T) := by
  unfold putL
  split
  · rename_i he
    have hn : ∀ u ∈ ts, u.name ≠ T.name := by
      intro u hu e
      have h1 : ¬ BadT T := fun hb => by unfold putE at he; rw [if_pos hb] at he; cases he
      unfold putE at he
      rw [if_neg h1] at he
      split at he
      · cases he
      · rename_i h3
        apply h3
        unfold idxN
        cases hf : ts.findIdx? (fun t => t.name == T.name) with
        | some i => simp
        | none =>
          rw [List.findIdx?_eq_none_iff] at hf
          have := hf u hu
          simp [e] at this
    have hl : ts.length < 12 := by
      have h1 : ¬ BadT T := fun hb => by unfold putE at he; rw [if_pos hb] at he; cases he
      unfold putE at he
      rw [if_neg h1] at he
      split at he
      · cases he
      · split at he
        · cases he
        · omega
    exact ⟨srt_insP h.srt hn, by rw [insP_len]; omega⟩
  · exact h
theorem Good.del {ts : List Tk} (h : Good ts) (name : Int) : Good (delN ts name) := by
  unfold delN
  split
  · refine ⟨?_, ?_⟩
    · unfold delAt
      have hs := h.srt
      unfold Srt at *
      rw [List.pairwise_append]
      have h2 : (ts.take (idxN ts name).toNat ++ ts.drop (idxN ts name).toNat).Pairwise (fun a b => cmpT a b < 0) := by rw [List.take_append_drop]; exact hs
      rw [List.pairwise_append] at h2
      refine ⟨h2.1, List.Pairwise.drop hs, fun a ha b hb => h2.2.2 a ha b ?_⟩
      have e : ts.drop ((idxN ts name).toNat + 1) = (ts.drop (idxN ts name).toNat).drop 1 := by rw [List.drop_drop]
      rw [e] at hb
      exact List.mem_of_mem_drop hb
    · have := h.len
      simp only [delAt, List.length_append, List.length_take, List.length_drop]
      omega
  · exact h
theorem Good.drop {ts : List Tk} (h : Good ts) (k : Nat) : Good (ts.drop k) := ⟨srt_drop h.srt k, by rw [List.length_drop]; have := h.len; omega⟩
end Go.Proofs.Ytbpgiahbnijidaa
