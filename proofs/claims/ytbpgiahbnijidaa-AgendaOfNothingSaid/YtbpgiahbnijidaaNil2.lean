/-
  A nil agenda's Due.
-/
import Derived.Test.YtbpgiahbnijidaaNil1
namespace Go.Proofs.Ytbpgiahbnijidaa
open Go.RowKit Go.Shelf
attribute [local go_sem] Oper.semAt_some
set_option linter.unusedVariables false
set_option linter.unusedSimpArgs false

def NilI (N0 db : Nat) (pre : List Tk) (Φ : FP) (W : World) : Prop := (∀ k, ¬ Φ k) ∧ Boxed W db 26 (.slice none 0 0) ∧ N0 ≤ W.heap.size
theorem NilI.stab {N0 db : Nat} (h1 : db < N0) : Stab N0 (NilI N0 db) := by
  rintro pre Φ W ⟨a, b, f⟩
  exact ⟨fun k hk => absurd hk (a k), f, fun W' hg hk => ⟨a, (hk db (.inl h1)).trans b, Nat.le_trans f hg.size⟩⟩
set_option maxHeartbeats 4000000 in
set_option maxRecDepth 100000 in
theorem Due_nil (now most : Int) (w : World) :
    Calls Try.prog 17 #[.pointer none, .int .i64 now, .int .i64 most] w fun e w' => e = .returned (.slice none 0 0) ∧ Below w.heap.size w w' := by
  refine (callsIn_wide (n := 2)).1 ?_
  refine callsIn_of_wp_marks Try.func17 rfl trivial ?_ rfl
  simp only [Try.ntmps17, List.size_toArray, List.length_cons, List.length_nil, Nat.reduceAdd, Nat.reduceSub, Array.replicate_succ, Array.replicate_zero, List.push_toArray, List.append_toArray, List.nil_append, List.cons_append]
  gi_wp2_with (first | (gi_at_call 22; refine (callsIn_wide.2 (agenda_All _ ⟨_, rfl⟩ _)).mono ?_; rintro e w1 ⟨rfl, hw1⟩) | (refine ⟨trivial, ?_⟩; gi_at_call 22; refine (callsIn_wide.2 (agenda_All _ ⟨_, rfl⟩ _)).mono ?_; rintro e w1 ⟨rfl, hw1⟩) | fail)
  rw [← hw1]
  obtain ⟨nb, hnb⟩ : ∃ nb, nb = w.heap.size := ⟨_, rfl⟩
  obtain ⟨mb, hmb⟩ : ∃ mb, mb = nb + 1 := ⟨_, rfl⟩
  obtain ⟨db, hdb⟩ : ∃ db, db = mb + 1 := ⟨_, rfl⟩
  obtain ⟨ab, hab⟩ : ∃ ab, ab = db + 1 := ⟨_, rfl⟩
  have hB : Below w.heap.size w w1 := by rw [hw1]; exact ((((Below.refl _ w).alloc (Nat.le_refl _) _).alloc (by simp) _).alloc (by simp; omega) _).alloc (by simp; omega) _
  have hsz : w1.heap.size = nb + 4 := by rw [hw1, hnb]; simp
  have x0 : Boxed w1 nb 3 (.int .i64 now) := by rw [hw1, hnb]; exact (((Boxed.new w _ _).alloc _).alloc _).alloc _
  have x1 : Boxed w1 mb 3 (.int .i64 most) := by
    have := Boxed.new (w.alloc (.cells #[.int .i64 now] 3)) 3 (.int .i64 most)
    rw [World.size_alloc] at this
    rw [hw1, hmb, hnb]; exact (this.alloc _).alloc _
  have x2 : Boxed w1 db 26 (.slice none 0 0) := by
    have := Boxed.new ((w.alloc (.cells #[.int .i64 now] 3)).alloc (.cells #[.int .i64 most] 3)) 26 (.slice none 0 0)
    rw [World.size_alloc, World.size_alloc] at this
    rw [hw1, hdb, hmb, hnb]; exact this.alloc _
  have x3 : Boxed w1 ab 23 (.pointer none) := by
    have := Boxed.new (((w.alloc (.cells #[.int .i64 now] 3)).alloc (.cells #[.int .i64 most] 3)).alloc (.cells #[.slice none 0 0] 26)) 23 (.pointer none)
    rw [World.size_alloc, World.size_alloc, World.size_alloc] at this
    rw [hw1, hab, hdb, hmb, hnb]; exact this
  rw [← hnb, ← hmb, ← hdb, ← hab]
  have hit := all_nil 0 ab w1 x3.cell (fun k => k < w1.heap.size) (by omega)
  have HB1 := Lib.hid hB
  have HX2 := Lib.hid x2
  have HNB := Lib.hid hnb
  have l0 : nb < mb := by omega
  have l1 : mb < db := by omega
  have l2 : db < ab := by omega
  have l3 : ab < w1.heap.size := by omega
  have l4 : w.heap.size ≤ nb := by omega
  clear x3 hw1 hmb hdb hab hsz hB hnb
  refine range_outerA (n := 0) (gf := 29) (lb := #[.pointer (some ⟨ab, 0, none⟩)]) rfl enters_all hit (Grow.refl _) (fun k hk => ⟨hk, rfl⟩) (fun _ => rfl)
    (fun k => k = db) (by rintro k rfl; omega) (NilI w1.heap.size db) (fun _ _ _ _ => False) (NilI.stab (by omega)) (fun c _ _ _ h => h.elim)
    ⟨fun _ h => h, x2, Nat.le_refl _⟩
    (fun x N => { tmps := #[.pointer none, .int .i64 now, .int .i64 most, undef, .pointer (some ⟨nb, 0, none⟩), .pointer (some ⟨mb, 0, none⟩), .slice none 0 0, .pointer (some ⟨db, 0, none⟩), .pointer (some ⟨N, 0, none⟩), .pointer none, .func (.func 29) #[] #[.pointer (some ⟨ab, 0, none⟩)], .agg (tc x).toArray, undef, undef, undef, undef, undef, undef, undef, undef, undef, undef, undef, undef, undef, undef, undef, undef, undef, undef, undef, undef, undef, undef, undef, undef, undef, undef, undef, undef], defers := [] })
    (fun x N W => W.heap[N]? = some (.cells (tc x).toArray 32 (0, 0))) (fun x N W W' h e => e.trans h) ?assign ?body ?done ?stop
  case assign =>
    intro l x W K hK
    refine frame_eq (b := { tmps := #[.pointer none, .int .i64 now, .int .i64 most, undef, .pointer (some ⟨nb, 0, none⟩), .pointer (some ⟨mb, 0, none⟩), .slice none 0 0, .pointer (some ⟨db, 0, none⟩), undef, .pointer none, .func (.func 29) #[] #[.pointer (some ⟨ab, 0, none⟩)], .agg (tc x).toArray, undef, undef, undef, undef, undef, undef, undef, undef, undef, undef, undef, undef, undef, undef, undef, undef, undef, undef, undef, undef, undef, undef, undef, undef, undef, undef, undef, undef], defers := [] }) (by simp) ?_
    gi_wp2_with (first
        | (refine wplIn_allocT rfl rfl ?_; intro C hC)
        | (refine wplIn_storeT (t := x) (C := C) _ _ rfl rfl rfl rfl (heap_alloc_new W _) hC ?_)
        | fail)
    refine hK _ ?_ (by simp) (setRow_heap _ _ _ _ _ _ (heap_alloc_new W _))
    exact ((Below.refl _ W).alloc (Nat.le_refl _) _).trans ⟨rfl, rfl, rfl, by simp, fun k hk => setRow_other _ _ k _ (by omega)⟩
  case body =>
    rintro l pre x Φ N W hpx
    have h1 := hpx.length_le
    simp at h1
  case done =>
    rintro D Φ W3 ⟨hΦ, b1, hz⟩ hon hD hnD hK
    have c0 := b1.cell
    have HON := Lib.hid hon
    have HKK := Lib.hid hK
    clear b1 hon hK hΦ
    gi_wp2
    refine ⟨by simp, .inl ⟨_, _, rfl, run_takeDeferred HKK.out, ?_⟩⟩
    refine ⟨.slice none 0 0, by simp [results, Try.results17, go_sem], rfl, ?_⟩
    have hg : Grow W3 (W3.putObj D (.deferred none)) := put_grow _ _ _
    have hO2 := HON.out
    have hw2 := HB1.out
    refine ⟨hg.os.trans (hO2.grow.os.trans hw2.os), hg.tape.trans (hO2.grow.tape.trans hw2.tape), hg.output.trans (hO2.grow.output.trans hw2.output), by have := hg.size; have := hO2.grow.size; have := hw2.size; omega, fun k hk => ?_⟩
    have := hw2.size
    rw [put_other (by omega), hO2.block k (by omega) (fun h => by omega) (fun h => h)]
    exact hw2.block k hk
  case stop =>
    rintro D Φ c pre W3 hpre h
    exact h.elim
end Go.Proofs.Ytbpgiahbnijidaa
