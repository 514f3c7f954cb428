/-
  An extrinsic that comes in: its places, and its call as a tree.
-/
import Derived.Test.YteioacpfphigjaaGreatDoorOpC
import Derived.Test.YteioacpfphigjaaGreatDoorMgj
import Derived.Deep.MidRow
import Derived.ChangeKeysEq
namespace Go.Proofs.YteioacpfphigjaaGreatDoor
open Go.ChangeShapes Go.WideShapes Go.ChangeAt Go.RowKit Go.Deep
set_option linter.unusedVariables false
set_option linter.unusedSimpArgs false
set_option linter.constructorNameAsVariable false

/-- A vote. -/
structure Vt where
  kind : Int
  aye : Bool
  level : Int
  a : Int
  n : Int
  s : Int
def voteEq (a b : Vt) : Bool := decide (a.kind = b.kind) && (decide (a.aye = b.aye) && (decide (a.level = b.level) && (decide (a.a = b.a) && (decide (a.n = b.n) && decide (a.s = b.s)))))
def vtc (v : Vt) : List Value := [.int .i64 v.kind, .bool v.aye, .int .i64 v.level, .int .i64 v.a, .int .i64 v.n, .int .i64 v.s]
/-- An extrinsic: its places, its call's as they are. -/
structure Ex where
  hd : List Int
  h7 : hd.length = 7
  sum : List Nat
  h32 : sum.length = 32
  vote : Vt
  ck : Int
  ct : Int
  cn : Int
  ca : Option Addr
  cc : Nat
  m : Nat
def callc (e : Ex) : List Value := [.int .i64 e.ck, .int .i64 e.ct, .int .i64 e.cn, .slice e.ca e.m e.cc]
def ec (e : Ex) : List Value := Is e.hd ++ (Bs e.sum ++ (vtc e.vote ++ callc e))
theorem ec_len (e : Ex) : (ec e).length = 49 := by simp [ec, Is, Bs, vtc, callc, e.h7, e.h32]
theorem fits_u8sE : ∀ (n : Nat) (cs : List Value), Fits (List.replicate n (some .u8)) cs → ∃ l : List Nat, l.length = n ∧ cs = Bs l ∧ ∀ x ∈ l, x < 256
  | 0, cs, h => ⟨[], rfl, by rw [fits_nil h]; rfl, fun x hx => absurd hx List.not_mem_nil⟩
  | n + 1, cs, h => by
    obtain ⟨m, vs, rfl, hw, hr⟩ := fits_int (ls := List.replicate n (some .u8)) h
    obtain ⟨l, h1, rfl, h3⟩ := fits_u8sE n vs hr
    have hm : 0 ≤ m ∧ m < 256 := by
      have h := hw
      simp [Lit.wf, IntKind.min, IntKind.max, IntKind.signed, IntKind.bits] at h
      omega
    refine ⟨m.toNat :: l, by simp [h1], by simp [Bs, Int.toNat_of_nonneg hm.1], fun x hx => ?_⟩
    rcases List.mem_cons.1 hx with rfl | hx
    · omega
    · exact h3 x hx
theorem cellsOf_hash : Tryz.prog.cellsOf 23 = 32 := by kernel_rfl
theorem cellsOf_vote : Tryz.prog.cellsOf 25 = 6 := by kernel_rfl
theorem cellsOf_ext : Tryz.prog.cellsOf 30 = 49 := by kernel_rfl
theorem extFields : ∃ fs, Tryz.prog.underlying 30 = some (.struct fs) ∧ fs.size = 10 ∧ (∀ i, i < 7 → ∃ f, fs[i]? = some f ∧ f.type = 3 ∧ f.offset = i) ∧
    (∃ f, fs[7]? = some f ∧ f.type = 23 ∧ f.offset = 7) ∧ (∃ f, fs[8]? = some f ∧ f.type = 25 ∧ f.offset = 39) ∧ (∃ f, fs[9]? = some f ∧ f.type = 28 ∧ f.offset = 45) := by
  refine ⟨_, Tryz.underlying30, rfl, fun i hi => ?_, ⟨_, rfl, rfl, rfl⟩, ⟨_, rfl, rfl, rfl⟩, ⟨_, rfl, rfl, rfl⟩⟩
  match i, hi with
  | 0, _ => exact ⟨_, rfl, rfl, rfl⟩
  | 1, _ => exact ⟨_, rfl, rfl, rfl⟩
  | 2, _ => exact ⟨_, rfl, rfl, rfl⟩
  | 3, _ => exact ⟨_, rfl, rfl, rfl⟩
  | 4, _ => exact ⟨_, rfl, rfl, rfl⟩
  | 5, _ => exact ⟨_, rfl, rfl, rfl⟩
  | 6, _ => exact ⟨_, rfl, rfl, rfl⟩
theorem drop_one {α : Type} (l : List α) (k n : Nat) : l.drop k = (l.drop k).take n ++ l.drop (k + n) := by rw [← List.drop_drop, List.take_append_drop]
section
variable {H : Type} {enc : TypeId × Value → H} {w : World} {base : Nat} {held : Bool}
theorem open_extF (fuel : Nat) (cs : List Value) (x : DataW H × List MemPlace) (h : DataW.trod enc Tryz.prog w base (fun _ => true) held fuel 30 cs = some x) :
    ∃ (e : Ex) (c : Cl) (d : Nat), cs = ec e ∧ RdC w d (.agg #[.int .i64 e.ck, .int .i64 e.ct, .int .i64 e.cn, .slice e.ca e.m e.cc]) c ∧ LenC c ∧ ∀ b ∈ e.sum, b < 256 := by
  obtain ⟨fs, hu, hfs, hI, ⟨f7, g7, t7, o7⟩, ⟨f8, g8, t8, o8⟩, ⟨f9, g9, t9, o9⟩⟩ := extFields
  obtain ⟨xs, n, rfl, -, hlen, hxl, hf⟩ := DataW.trod_struct hu h
  rw [cellsOf_ext] at hlen
  have hint : ∀ i, i < 7 → ∃ k, (cs.drop i).take 1 = [.int .i64 k] := fun i hi => by
    obtain ⟨f, g, t, o⟩ := hI i hi
    have a := hf i f g
    rw [t, o, cellsOf_int] at a
    obtain ⟨y, b⟩ := trod_field a (by omega)
    obtain ⟨k, e, -, -⟩ := DataW.trod_int Tryz.underlying3 b
    exact ⟨k, e⟩
  obtain ⟨k0, e0⟩ := hint 0 (by omega)
  obtain ⟨k1, e1⟩ := hint 1 (by omega)
  obtain ⟨k2, e2⟩ := hint 2 (by omega)
  obtain ⟨k3, e3⟩ := hint 3 (by omega)
  obtain ⟨k4, e4⟩ := hint 4 (by omega)
  obtain ⟨k5, e5⟩ := hint 5 (by omega)
  obtain ⟨k6, e6⟩ := hint 6 (by omega)
  have a7 := hf 7 f7 g7
  have a8 := hf 8 f8 g8
  have a9 := hf 9 f9 g9
  rw [t7, o7, cellsOf_hash] at a7
  rw [t8, o8, cellsOf_vote] at a8
  rw [t9, o9, cellsOf_call] at a9
  obtain ⟨y7, b7⟩ := trod_field a7 (by omega)
  obtain ⟨y8, b8⟩ := trod_field a8 (by omega)
  obtain ⟨y9, b9⟩ := trod_field a9 (by omega)
  have hl7 : leaves Tryz.prog 4 23 = some (List.replicate 32 (some .u8)) := by kernel_rfl
  have hl8 : leaves Tryz.prog 4 25 = some [some .i64, none, some .i64, some .i64, some .i64, some .i64] := by kernel_rfl
  obtain ⟨sm, hs, es, hb⟩ := fits_u8sE 32 _ (flat_fits 4 _ _ hl7 _ _ _ b7)
  have hv := flat_fits 4 _ _ hl8 _ _ _ b8
  obtain ⟨v0, r0, q0, -, hv⟩ := fits_int hv
  obtain ⟨v1, r1, q1, hv⟩ := fits_bool hv
  obtain ⟨v2, r2, q2, -, hv⟩ := fits_int hv
  obtain ⟨v3, r3, q3, -, hv⟩ := fits_int hv
  obtain ⟨v4, r4, q4, -, hv⟩ := fits_int hv
  obtain ⟨v5, r5, q5, -, hv⟩ := fits_int hv
  have q6 := fits_nil hv
  rw [q6] at q5
  rw [q5] at q4
  rw [q4] at q3
  rw [q3] at q2
  rw [q2] at q1
  rw [q1] at q0
  obtain ⟨c, hrd, hlc⟩ := open_callF _ _ _ b9
  obtain ⟨ao, cap, hvs⟩ := hrd.cells
  refine ⟨⟨[k0, k1, k2, k3, k4, k5, k6], rfl, sm, hs, ⟨v0, v1, v2, v3, v4, v5⟩, c.k, c.t, c.n, ao, cap, c.kids.length⟩, c, _, ?_, by rw [hvs] at hrd; exact hrd, hlc, hb⟩
  have z : cs.drop 49 = [] := by rw [List.drop_eq_nil_iff]; omega
  have s9 := drop_one cs 45 4
  rw [hvs, z] at s9
  have s8 := drop_one cs 39 6
  rw [q0, s9] at s8
  have s7 := drop_one cs 7 32
  rw [es, s8] at s7
  have s6 := drop_one cs 6 1
  rw [e6, s7] at s6
  have s5 := drop_one cs 5 1
  rw [e5, s6] at s5
  have s4 := drop_one cs 4 1
  rw [e4, s5] at s4
  have s3 := drop_one cs 3 1
  rw [e3, s4] at s3
  have s2 := drop_one cs 2 1
  rw [e2, s3] at s2
  have s1 := drop_one cs 1 1
  rw [e1, s2] at s1
  have s0 := drop_one cs 0 1
  rw [e0, s1, List.drop_zero] at s0
  rw [s0]
  rfl
end
theorem open_ext {H : Type} {enc : TypeId × Value → H} {w : World} {base : Nat} {held : Bool} {fs : Array Field} {v : Value} {d : DataW H} {p : List MemPlace} {r : Reach} {b0 : Nat} (ht : Tryz.prog.underlying 30 = some (.struct fs)) (hv : Value.okWide Tryz.prog w r b0 30 v) (h : DataW.Trod enc Tryz.prog w base (fun _ => true) held 30 v d p) :
    ∃ (e : Ex) (c : Cl) (d : Nat), v = .agg (ec e).toArray ∧ RdC w d (.agg #[.int .i64 e.ck, .int .i64 e.ct, .int .i64 e.cn, .slice e.ca e.m e.cc]) c ∧ LenC c ∧ ∀ b ∈ e.sum, b < 256 := by
  have q := trod_struct1 (H := H) (enc := enc) (w := w) (base := base) (held := held) (v := v) (d := d) (p := p) (r := r) (b0 := b0) (t := 30) ht
  have q2 : ∃ (fuel : Nat) (cs : List Value), v = .agg cs.toArray ∧ DataW.trod enc Tryz.prog w base (fun _ => true) held fuel 30 cs = some (d, p) := by
    revert hv h
    with_reducible exact q
  clear q hv h
  obtain ⟨fuel, cs, rfl, hf⟩ := q2
  obtain ⟨e, c, d', h1, h2, h3, h4⟩ := open_extF fuel _ _ hf
  exact ⟨e, c, d', by rw [h1], h2, h3, h4⟩
end Go.Proofs.YteioacpfphigjaaGreatDoor
