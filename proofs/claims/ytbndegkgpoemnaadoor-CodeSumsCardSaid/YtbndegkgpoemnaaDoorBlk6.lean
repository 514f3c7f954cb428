/-
  The document's block: words out of bytes.
-/
import Derived.Test.YtbndegkgpoemnaaDoorBlk5
import Derived.Test.YtbndegkgpoemnaaDoorBlk3
import Derived.BigRegion
import Derived.RegionTactic
import Derived.Deep.DeepCutAuto
namespace Go.Proofs.YtbndegkgpoemnaaDoor
open Go.RowKit
set_option linter.unusedVariables false
set_option linter.unusedSimpArgs false

/-- Bytes that a slice holds, in one place. -/
structure Bytes (w : World) (blk off : Nat) (l : List Nat) : Prop where
  lt : blk < w.heap.size
  cell : ∀ i, i < l.length → w.cell? ⟨blk, off + i, none⟩ = some (.int .u8 (gt l i : Nat))
  small : ∀ i, gt l i < 256
theorem Bytes.below {w w' : World} {blk off : Nat} {l : List Nat} (h : Bytes w blk off l) {N : Nat} (hb : Below N w w') (hN : blk < N) : Bytes w' blk off l :=
  ⟨Nat.lt_of_lt_of_le h.lt hb.size, fun i hi => (hb.cell (p := ⟨blk, _, none⟩) hN).trans (h.cell i hi), h.small⟩

theorem WBox.keep {t : TypeId} {b : Nat} {l : List Nat} {w w' : World} (h : WBox t b l w) (hk : w'.heap[b]? = w.heap[b]?) : WBox t b l w' := ⟨hk.trans h.at_, h.small⟩

/-- The bytes of a word from the highest down. -/
def hiW (p : List Nat) (o : Nat) : Nat → Nat
  | 0 => 0
  | n + 1 => hiW p o n * 256 + gt p (o + (7 - n))
theorem hiW_lt {p : List Nat} (hp : ∀ i, gt p i < 256) (o : Nat) : ∀ n, hiW p o n < 256 ^ n
  | 0 => by simp [hiW]
  | n + 1 => by
    have h1 := hiW_lt hp o n
    have h2 := hp (o + (7 - n))
    simp only [hiW, Nat.pow_succ]
    omega
theorem hiW_all (p : List Nat) (o : Nat) : hiW p o 8 = wordTo p o 8 := by
  simp only [hiW, wordTo, Nat.reduceSub, Nat.reducePow]
  omega
theorem or_byteK (x c : Nat) (hx : x < 72057594037927936) (hc : c < 256) : bits .or .u64 (IntKind.u64.wrap ((x : Int) * 256)) (c : Int) = ((x * 256 + c : Nat) : Int) := by
  have h2 : IntKind.u64.wrap ((x : Int) * 256) = ((x * 256 : Nat) : Int) := by rw [IntKind.wrap_u64]; omega
  rw [h2, bits_or_u64_nat _ _ (by omega) (by omega)]
  have := Nat.two_pow_add_eq_or_of_lt (i := 8) (b := c) (by omega) x
  rw [Nat.mul_comm x 256]
  exact_mod_cast this.symm

theorem not64 (x : Nat) (hx : x < 18446744073709551616) : bits .xor .u64 IntKind.u64.max (x : Int) = ((18446744073709551615 - x : Nat) : Int) := by
  have e : IntKind.u64.max = ((18446744073709551615 : Nat) : Int) := rfl
  rw [e, bits_xor_u64_nat _ _ (by decide) hx]
  congr 1
  have h := BitVec.allOnes_xor (x := BitVec.ofNat 64 x)
  have h2 := congrArg BitVec.toNat h
  rw [BitVec.toNat_xor, BitVec.toNat_not, BitVec.toNat_allOnes, BitVec.toNat_ofNat, Nat.mod_eq_of_lt (by simpa using hx)] at h2
  simpa using h2
theorem ref_digit' (c : Nat) (i : Nat) (w : World) (h1 : 48 ≤ c) (h2 : c < 256) (h : digitN c = i) :
    Calls Tryd.prog 73 #[.int .u8 (c : Nat)] w fun e w' => e = .returned (.int .i64 (i : Nat)) ∧ w' = w := by
  subst h; exact ref_digit _ w h1 h2
theorem ref_mix' (blk a b c d x y : Nat) (l : List Nat) (w0 w1 : World) (t : TypeId) (hM : MS t blk w0 l w1) (ha : a < 16) (hb : b < 16) (hc : c < 16) (hd : d < 16) {A B C D : Int} (hA : A = (a : Int)) (hB : B = (b : Int)) (hC : C = (c : Int)) (hD : D = (d : Int)) :
    Calls Tryd.prog 72 #[.pointer (some ⟨blk, 0, none⟩), .int .i64 A, .int .i64 B, .int .i64 C, .int .i64 D, .int .u64 x, .int .u64 y] w1 fun e w' => e = .returned (.tuple #[]) ∧ MS t blk w0 (mixL l a b c d x y) w' := by
  subst hA hB hC hD; exact ref_mix blk a b c d x y l w0 w1 t hM ha hb hc hd

/-- The frame while m is made: h, the result's cells, m. -/
structure F6 (w : World) (h m : List Nat) (wr : World) : Prop where
  hb : WBox 86 w.heap.size h wr
  zb : WBox 86 (w.heap.size + 1) (List.replicate 8 0) wr
  mb : WBox 109 (w.heap.size + 1 + 1) m wr
  ml : m.length = 16
  old : Below w.heap.size w wr
theorem F6.set {w wr : World} {h m : List Nat} (f : F6 w h m wr) (i : Nat) {x : Nat} (hx : x < 18446744073709551616) : F6 w h (m.set i x) (wr.setCell ⟨w.heap.size + 1 + 1, i, none⟩ (.int .u64 (x : Nat))).drew := by
  have k := f.mb.set i hx
  exact ⟨f.hb.keep (set_other (by simp only; omega)), f.zb.keep (set_other (by simp)), ⟨k.at_, k.small⟩, by simp [f.ml], (f.old.setCell (by simp only; omega) _).trans ⟨rfl, rfl, rfl, Nat.le_refl _, fun _ _ => rfl⟩⟩
/-- The frame behind it: v and V too. -/
structure F7 (w : World) (vb gb : Nat) (h m v : List Nat) (wr : World) : Prop where
  hb : WBox 86 w.heap.size h wr
  zb : WBox 86 (w.heap.size + 1) (List.replicate 8 0) wr
  mb : WBox 109 (w.heap.size + 1 + 1) m wr
  vbx : WBox 109 vb v wr
  gbx : WBox 86 gb beginL wr
  vl : v.length = 16
  n1 : w.heap.size + 1 + 1 < vb
  n2 : vb < gb
  old : Below w.heap.size w wr
theorem F7.upd {w wr w' : World} {vb gb : Nat} {h m v v' : List Nat} (f : F7 w vb gb h m v wr) (hu : Upd vb wr w') (hv : WBox 109 vb v' w') (hl : v'.length = 16) : F7 w vb gb h m v' w' := by
  have a1 := f.n1
  have a2 := f.n2
  exact ⟨f.hb.keep (hu.block _ (by omega)), f.zb.keep (hu.block _ (by omega)), f.mb.keep (hu.block _ (by omega)), hv, f.gbx.keep (hu.block _ (by omega)), hl, a1, a2, f.old.trans (hu.below (by omega))⟩
theorem F7.set {w wr : World} {vb gb : Nat} {h m v : List Nat} (f : F7 w vb gb h m v wr) (i : Nat) {x : Nat} (hx : x < 18446744073709551616) : F7 w vb gb h m (v.set i x) (wr.setCell ⟨vb, i, none⟩ (.int .u64 (x : Nat))) :=
  f.upd ((Upd.refl vb wr).set _ _) (f.vbx.set i hx) (by simp [f.vl])
theorem F7.seth {w wr : World} {vb gb : Nat} {h m v : List Nat} (f : F7 w vb gb h m v wr) (i : Nat) (hl : h.length = 8) {x : Nat} (hx : x < 18446744073709551616) : F7 w vb gb (h.set i x) m v (wr.setCell ⟨w.heap.size, i, none⟩ (.int .u64 (x : Nat))) := by
  have a1 := f.n1
  have a2 := f.n2
  exact ⟨f.hb.set i hx, f.zb.keep (set_other (by simp)), f.mb.keep (set_other (by simp only; omega)), f.vbx.keep (set_other (by simp only; omega)), f.gbx.keep (set_other (by simp only; omega)), f.vl, a1, a2, f.old.setCell (Nat.le_refl _) _⟩
theorem F7.drew {w wr : World} {vb gb : Nat} {h m v : List Nat} (f : F7 w vb gb h m v wr) : F7 w vb gb h m v wr.drew :=
  f.upd (Upd.refl vb wr).drew ⟨f.vbx.at_, f.vbx.small⟩ f.vl
theorem F7.ms {w wr : World} {vb gb : Nat} {h m v : List Nat} (f : F7 w vb gb h m v wr) : MS 109 vb wr v wr.drew := ⟨⟨f.vbx.at_, f.vbx.small⟩, f.vl, (Upd.refl vb wr).drew⟩
/-- i words of v and of its other half are laid. -/
def Laid (h v : List Nat) (n : Nat) : Prop := ∀ t, t < n → gt v t = gt h t ∧ gt v (t + 8) = gt beginL t
/-- n words of h are folded. -/
def Folded (h v x : List Nat) (n : Nat) : Prop := (∀ t, t < n → gt x t = gt h t ^^^ gt v t ^^^ gt v (t + 8)) ∧ ∀ t, n ≤ t → gt x t = gt h t
theorem Ws8 (x : List Nat) (h : x.length = 8) : Ws x = #[.int .u64 (gt x 0 : Nat), .int .u64 (gt x 1 : Nat), .int .u64 (gt x 2 : Nat), .int .u64 (gt x 3 : Nat), .int .u64 (gt x 4 : Nat), .int .u64 (gt x 5 : Nat), .int .u64 (gt x 6 : Nat), .int .u64 (gt x 7 : Nat)] := by
  match x, h with
  | [a, b, c, d, e, f, g, i], _ => rfl
/-- i words of m are made. -/
def Made (l m : List Nat) (i : Nat) : Prop := (∀ t, t < i → gt m t = wordTo l (8 * t) 8) ∧ ∀ t, i ≤ t → gt m t = 0
/-- .. and n bytes of the next one. -/
def Making (l m : List Nat) (i n : Nat) : Prop := (∀ t, t < i → gt m t = wordTo l (8 * t) 8) ∧ gt m i = hiW l (8 * i) n ∧ ∀ t, i < t → gt m t = 0

set_option maxHeartbeats 4000000 in
set_option maxRecDepth 100000 in
theorem ref_block (h8 l : List Nat) (blk off cap count : Nat) (last : Bool) (w : World) (hh : h8.length = 8) (hs : Small h8) (hl : l.length = 128) (hr : Bytes w blk off l) (hcap : 128 ≤ cap) (hc : count < 9223372036854775808) :
    Calls Tryd.prog 54 #[vec8 h8, .slice (some ⟨blk, off, none⟩) 128 cap, .int .i64 (count : Nat), .bool last] w fun e w' => e = .returned (vec8 (blockL h8 (wordsL l) count last)) ∧ Below w.heap.size w w' := by
  have HR := Lib.hid hr
  have HL := Lib.hid hl
  have HS := Lib.hid hs
  clear hr hl hs
  go_enter Tryd.func54, Tryd.ntmps54
  go_wp2
  go_loopw [10] (fun i wr => ∃ n : Nat, n ≤ 16 ∧ i = .int .i64 n ∧ ∃ m, F6 w h8 m wr ∧ Made l m n) (fun i _ => 16 - (intOf i).toNat)
  case atStart =>
    refine ⟨0, by omega, rfl, List.replicate 16 0, ⟨⟨?_, HS.out⟩, ⟨?_, small_zeros 8⟩, ⟨?_, small_zeros 16⟩, rfl, ?_⟩, fun t ht => by omega, fun t _ => ?_⟩
    · exact (Below.heap_alloc _ _ _ (by simp; omega)).trans ((Below.heap_alloc _ _ _ (by simp)).trans (heap_alloc_new w _))
    · refine (Below.heap_alloc _ _ _ (by simp)).trans ?_
      have := heap_alloc_new (w.alloc (.cells (Ws h8) 86)) (.cells (Ws (List.replicate 8 0)) 86)
      rwa [World.size_alloc] at this
    · have := heap_alloc_new ((w.alloc (.cells (Ws h8) 86)).alloc (.cells (Ws (List.replicate 8 0)) 86)) (.cells (Ws (List.replicate 16 0)) 109)
      rwa [World.size_alloc, World.size_alloc] at this
    · exact (((Below.refl _ w).alloc (Nat.le_refl _) _).alloc (by simp) _).alloc (by simp; omega) _
    · exact gt_zeros 16 t
  case round =>
    obtain ⟨n, hn, rfl, m, hF, hM⟩ := hrel
    by_cases hlt : n < 16
    · have HF := Lib.hid hF
      have HM := Lib.hid hM
      have hlt' : (n : Int) < 16 := by omega
      clear hF hM
      go_wp2
      go_loopw [11] (fun k wr' => ∃ j : Nat, j ≤ 8 ∧ k = .int .i64 (7 - (j : Int)) ∧ ∃ m, F6 w h8 m wr' ∧ Making l m n j) (fun k _ => ((intOf k) + 1).toNat)
      case atStart => exact ⟨0, by omega, by simp, m, HF.out, HM.out.1, HM.out.2 n (Nat.le_refl _), fun t ht => HM.out.2 t (by omega)⟩
      case round =>
        obtain ⟨j, hj, rfl, m2, hF, hM⟩ := hrel
        by_cases hjl : j < 8
        · have R := HR.out.below hF.old HR.out.lt
          have hsm := R.small
          have hx : gt m2 n < 72057594037927936 := by
            rw [hM.2.1]
            have h1 := hiW_lt hsm (8 * n) j
            have h2 : 256 ^ j ≤ 256 ^ 7 := Nat.pow_le_pow_right (by decide) (by omega)
            omega
          obtain ⟨N, hN⟩ : ∃ N, N = 8 * n + (7 - j) := ⟨_, rfl⟩
          have hby := hsm N
          have hlen := HL.out
          have W1 : IntKind.i64.wrap (8 * (n : Int)) = 8 * (n : Int) := IntWalk.i64_in _ (by omega)
          have W2 : IntKind.i64.wrap (8 * (n : Int) + (7 - (j : Int))) = (N : Int) := by rw [IntWalk.i64_in _ (by omega)]; omega
          have hN128 : (N : Int) < 128 := by omega
          have c1 := hF.mb.cell (i := n) (by rw [hF.ml]; exact hlt)
          have f1 := hF.mb.frozen n
          have c2 := R.cell N (by omega)
          have o1 := or_byteK (gt m2 n) (gt l N) hx hby
          obtain ⟨X, hX⟩ : ∃ X, X = gt m2 n * 256 + gt l N := ⟨_, rfl⟩
          rw [← hX] at o1
          have hXl : X < 18446744073709551616 := by omega
          have hMk : Making l (m2.set n X) n (j + 1) := by
            refine ⟨fun t ht => ?_, ?_, fun t ht => ?_⟩
            · rw [gt_set_ne (by omega)]; exact hM.1 t ht
            · rw [gt_set_same (by rw [hF.ml]; exact hlt), hX, hM.2.1, hN]; rfl
            · rw [gt_set_ne (by omega)]; exact hM.2.2 t ht
          have HF2 := Lib.hid (hF.set n hXl)
          have HMk := Lib.hid hMk
          have W3 : IntKind.u64.wrap ((gt l N : Nat) : Int) = ((gt l N : Nat) : Int) := by rw [IntKind.wrap_u64]; omega
          clear hM hF R hsm hx hN hby hlen hX hXl hMk
          go_wp2
          go_still_tail 15, (by kernel_rfl)
          go_wp2
          exact ⟨⟨j + 1, by omega, by go_num, _, HF2.out, HMk.out⟩, by simp [intOf]; omega⟩
        · have hj8 : j = 8 := by omega
          subst hj8
          have HF2 := Lib.hid hF
          have HM2 := Lib.hid hM
          clear hF hM
          go_wp2
          refine ⟨⟨n + 1, by omega, by go_num, _, HF2.out, fun t ht => ?_, fun t ht => HM2.out.2.2 t (by omega)⟩, by simp [intOf]; omega⟩
          by_cases e : t = n
          · subst e; rw [HM2.out.2.1, hiW_all]
          · exact HM2.out.1 t (by omega)
    · have hn16 : n = 16 := by omega
      subst hn16
      have hm : m = wordsL l := by
        refine ext_gt (by simp [wordsL, hF.ml]) fun i hi => ?_
        rw [hF.ml] at hi
        rw [hM.1 i hi, wordsL, gt_map_range hi]
      rw [hm] at hF
      have HF := Lib.hid hF
      clear hF hM hm
      go_wp2_with (first | (go_at_call 53; refine (ref_begin _).mono ?_; rintro e wB ⟨rfl, hbB⟩; have HB := Lib.hid hbB; clear hbB) | fail)
      obtain ⟨wC, hwC⟩ : ∃ wC, wC = wB.alloc (.cells (Ws beginL) 86) := ⟨_, rfl⟩
      have hlit : Ws beginL = #[.int .u64 7640891576956012808, .int .u64 13503953896175478587, .int .u64 4354685564936845355, .int .u64 11912009170470909681, .int .u64 5840696475078001361, .int .u64 11170449401992604703, .int .u64 2270897969802886507, .int .u64 6620516959819538809] := rfl
      rw [← hlit, ← hwC]
      have hF7 : F7 w wr.heap.size wB.heap.size h8 (wordsL l) (List.replicate 16 0) wC := by
        have f := HF.out
        have hB := HB.out
        have hsz := hB.size
        rw [World.size_alloc] at hsz
        have hk : ∀ k, k < wr.heap.size → wC.heap[k]? = wr.heap[k]? := fun k hk => by
          rw [hwC]
          exact (Below.heap_alloc _ _ _ (by omega)).trans ((hB.block k (by simp; omega)).trans (Below.heap_alloc _ _ _ hk))
        have h1 := f.hb.lt
        have h2 := f.zb.lt
        have h3 := f.mb.lt
        refine ⟨f.hb.keep (hk _ h1), f.zb.keep (hk _ h2), f.mb.keep (hk _ h3), ⟨?_, ?_⟩, ⟨?_, ?_⟩, rfl, h3, by omega, ?_⟩
        · rw [hwC]
          exact (Below.heap_alloc _ _ _ (by omega)).trans ((hB.block _ (by simp)).trans (heap_alloc_new wr _))
        · exact small_zeros 16
        · rw [hwC]; exact heap_alloc_new wB _
        · intro i
          by_cases hi : i < 8
          · have : ∀ i, i < 8 → gt beginL i < 18446744073709551616 := by decide
            exact this i hi
          · rw [gt_ge (by simp [beginL]; omega)]; decide
        · rw [hwC]
          have hb1 : Below w.heap.size w (wr.alloc (.cells (Ws (List.replicate 16 0)) 109)) := f.old.alloc f.old.size _
          exact (hb1.trans (hB.mono (by simp; have := f.old.size; omega))).alloc (by have := f.old.size; omega) _
      have HF7 := Lib.hid hF7
      have hvb := hF7.n1
      have hgb := hF7.n2
      clear hF7 hlit hwC HF HB
      obtain ⟨vb, hvbe⟩ : ∃ vb, vb = wr.heap.size := ⟨_, rfl⟩
      obtain ⟨gb, hgbe⟩ : ∃ gb, gb = wB.heap.size := ⟨_, rfl⟩
      rw [← hvbe, ← hgbe] at HF7 hgb ⊢
      rw [← hvbe] at hvb
      clear hvbe hgbe
      go_loopw [14] (fun i wr => ∃ n : Nat, n ≤ 8 ∧ i = .int .i64 n ∧ ∃ v, F7 w vb gb h8 (wordsL l) v wr ∧ Laid h8 v n) (fun i _ => 8 - (intOf i).toNat)
      case atStart => exact ⟨0, by omega, rfl, _, HF7.out, fun t ht => by omega⟩
      case round =>
        obtain ⟨n, hn, rfl, v, hF, hM⟩ := hrel
        by_cases hlt : n < 8
        · have hlt' : (n : Int) < 8 := by omega
          have hlt2 : (n : Int) < 16 := by omega
          obtain ⟨n8, hn8⟩ : ∃ n8, n8 = n + 8 := ⟨_, rfl⟩
          have W1 : IntKind.i64.wrap ((n : Int) + 8) = (n8 : Int) := by rw [IntWalk.i64_in _ (by omega)]; omega
          have hlt3 : (n8 : Int) < 16 := by omega
          have c1 := hF.hb.cell (i := n) (by rw [hh]; exact hlt)
          have c2 := hF.gbx.cell (i := n) (by simp [beginL]; exact hlt)
          have c3 := hF.vbx.cell (i := n) (by rw [hF.vl]; omega)
          have c4 := hF.vbx.cell (i := n8) (by rw [hF.vl]; omega)
          have f1 := hF.vbx.frozen n
          have f2 := hF.vbx.frozen n8
          have hne : (n8 = n) = False := by simp; omega
          have hne2 : (n = n8) = False := by simp; omega
          have HN := Lib.hid ((hF.set n (hF.hb.small n)).set n8 (hF.gbx.small n)).drew
          have HL8 : Laid h8 ((v.set n (gt h8 n)).set n8 (gt beginL n)) (n + 1) := by
            have hvl := hF.vl
            intro t ht
            by_cases e : t = n
            · subst e
              subst hn8
              exact ⟨by rw [gt_set_ne (by omega), gt_set_same (by omega)], gt_set_same (by simp; omega)⟩
            · have := hM t (by omega)
              rw [gt_set_ne (by omega), gt_set_ne (by omega), gt_set_ne (by omega), gt_set_ne (by omega)]
              exact this
          have HL9 := Lib.hid HL8
          clear hF hM HL8 hn8
          go_wp2
          go_region
          go_wp2
          exact ⟨⟨n + 1, by omega, by go_num, _, HN.out, HL9.out⟩, by simp [intOf]; omega⟩
        · have hn8 : n = 8 := by omega
          subst hn8
          rw [show ((8 : Nat) : Int) = 8 from rfl]
          have hv : v = h8 ++ beginL := by
            refine ext_gt (by rw [hF.vl]; simp [hh, beginL]) fun i hi => ?_
            rw [hF.vl] at hi
            by_cases h8 : i < 8
            · rw [gt_append_l (by omega)]; exact (hM i h8).1
            · rw [gt_append_r (by omega), hh]
              have := (hM (i - 8) (by omega)).2
              rwa [show i - 8 + 8 = i by omega] at this
          rw [hv] at hF
          have c12 := hF.vbx.cell (i := 12) (by rw [hF.vl]; omega)
          have f12 := hF.vbx.frozen 12
          have s12 := hF.vbx.small 12
          obtain ⟨g, hg⟩ : ∃ g, g = gt (h8 ++ beginL) 12 := ⟨_, rfl⟩
          rw [← hg] at c12 s12
          have W1 : IntKind.u64.wrap (count : Int) = (count : Int) := by rw [IntKind.wrap_u64]; omega
          have W2 : bits .xor .u64 (g : Int) (count : Int) = ((g ^^^ count : Nat) : Int) := bits_xor_u64_nat _ _ s12 (by omega)
          have hF2 := hF.set 12 (x := g ^^^ count) (Nat.xor_lt_two_pow (n := 64) s12 (by omega))
          have HF := Lib.hid hF2
          have HG := Lib.hid hg
          have c14 := hF2.vbx.cell (i := 14) (by rw [hF2.vl]; omega)
          have f14 := hF2.vbx.frozen 14
          have s14 := hF2.vbx.small 14
          clear hF hF2 hM hv hg s12
          obtain ⟨v1, hv1⟩ : ∃ v1, v1 = (h8 ++ beginL).set 12 (g ^^^ count) := ⟨_, rfl⟩
          rw [← hv1] at HF c14 s14
          have N1 := not64 (gt v1 14) s14
          have hV : startL h8 count last = (if last then v1.set 14 (18446744073709551615 - gt v1 14) else v1) := by rw [hv1, HG.out]; rfl
          have HV := Lib.hid hV
          have HV1 := Lib.hid hv1
          have s14' : 18446744073709551615 - gt v1 14 < 18446744073709551616 := by omega
          have HS14 := Lib.hid s14'
          clear hV hv1 s14 s14'
          obtain ⟨V, hVV⟩ : ∃ V, V = startL h8 count last := ⟨_, rfl⟩
          have HVV := Lib.hid hVV
          go_upto_if 65 with fail
          go_cut [12] (fun p wx => p = .pointer (some ⟨vb, 0, none⟩) ∧ F7 w vb gb h8 (wordsL l) V wx)
          case first =>
            cases last
            all_goals go_wp2_with fail
            all_goals go_meet
            all_goals first
              | (have HS1 := HF.out
                 rw [show v1 = V by rw [hVV]; exact HV.out.symm] at HS1
                 exact ⟨rfl, HS1⟩)
              | (have HS1 := HF.out.set 14 HS14.out
                 rw [show v1.set 14 (18446744073709551615 - gt v1 14) = V by rw [hVV]; exact HV.out.symm] at HS1
                 exact ⟨rfl, HS1⟩)
          case rest =>
            have HS1 := Lib.hid hcut.2
            have hp12 := hcut.1
            subst hp12
            clear hcut
            go_wp2_with fail
            go_loopw [15] (fun i wr => ∃ n : Nat, n ≤ 12 ∧ i = .int .i64 n ∧ F7 w vb gb h8 (wordsL l) (roundsL (wordsL l) n V) wr) (fun i _ => 12 - (intOf i).toNat)
            case atStart => exact ⟨0, by omega, rfl, HS1.out⟩
            case round =>
             obtain ⟨n, hn, rfl, hF⟩ := hrel
             by_cases hlt : n < 12
             · have hlt' : (n : Int) < 12 := by omega
               obtain ⟨os, hos⟩ : ∃ os, os = orderS (n % 10) := ⟨_, rfl⟩
               obtain ⟨v, hv⟩ : ∃ v, v = roundsL (wordsL l) n V := ⟨_, rfl⟩
               have hrnd : roundsL (wordsL l) (n + 1) V = diaL (wordsL l) (orderL (n % 10)) 4 (colL (wordsL l) (orderL (n % 10)) 4 v) := by rw [hv]; rfl
               rw [← hv] at hF
               have HOS := Lib.hid hos
               have hsz : os.size = 16 := by rw [hos]; exact order_size _
               have HVC := Lib.hid hF
               have HRN := Lib.hid hrnd
               clear hF hv hrnd hos
               go_wp2_with (first | (go_at_call 71; refine (ref_order n _ hlt).mono ?_; rintro e w' ⟨rfl, rfl⟩; rw [← HOS.out]) | fail)
               go_loopw [17] (fun k wr' => ∃ j : Nat, j ≤ 4 ∧ k = .int .i64 j ∧ F7 w vb gb h8 (wordsL l) (colL (wordsL l) (orderL (n % 10)) j v) wr') (fun k _ => 4 - (intOf k).toNat)
               case atStart => exact ⟨0, by omega, rfl, HVC.out⟩
               case round =>
                 obtain ⟨j, hj, rfl, hF⟩ := hrel
                 by_cases hjl : j < 4
                 · have hj4 : j = 0 ∨ j = 1 ∨ j = 2 ∨ j = 3 := by omega
                   rcases hj4 with rfl | rfl | rfl | rfl
                   · obtain ⟨ha0, ca, ha1, ha2, ha3, ha4⟩ := order_get (n % 10) 0 (by omega) (by omega) HOS.out
                     obtain ⟨hb0, cb, hb1, hb2, hb3, hb4⟩ := order_get (n % 10) 1 (by omega) (by omega) HOS.out
                     have w1 : IntKind.i64.wrap 0 = 0 := by decide
                     have w2 : IntKind.i64.wrap 0 = 0 := by decide
                     have w3 : IntKind.i64.wrap 1 = 1 := by decide
                     have la := orderL_lt (n % 10) 0
                     have lb := orderL_lt (n % 10) 1
                     have hstep : colL (wordsL l) (orderL (n % 10)) 1 v = mixL (colL (wordsL l) (orderL (n % 10)) 0 v) 0 4 8 12 (gt (wordsL l) (gt (orderL (n % 10)) 0)) (gt (wordsL l) (gt (orderL (n % 10)) 1)) := rfl
                     obtain ⟨ia, hia⟩ : ∃ ia, ia = gt (orderL (n % 10)) 0 := ⟨_, rfl⟩
                     obtain ⟨ib, hib⟩ : ∃ ib, ib = gt (orderL (n % 10)) 1 := ⟨_, rfl⟩
                     rw [← hia] at ha4 la hstep
                     rw [← hib] at hb4 lb hstep
                     obtain ⟨u, hu⟩ : ∃ u, u = colL (wordsL l) (orderL (n % 10)) 0 v := ⟨_, rfl⟩
                     rw [← hu] at hF hstep
                     have cma := hF.mb.cell (i := ia) (by simp [wordsL]; exact la)
                     have cmb := hF.mb.cell (i := ib) (by simp [wordsL]; exact lb)
                     have la' : (ia : Int) < 16 := by omega
                     have lb' : (ib : Int) < 16 := by omega
                     have HF := Lib.hid hF
                     have HST := Lib.hid hstep
                     have HA2 := Lib.hid ha2
                     have HA3 := Lib.hid ha3
                     have HA4 := Lib.hid ha4
                     have HB2 := Lib.hid hb2
                     have HB3 := Lib.hid hb3
                     have HB4 := Lib.hid hb4
                     clear hF hstep hu hia hib la lb ha2 ha3 ha4 hb2 hb3 hb4
                     go_wp2
                     refine wp_region_still_tail 22 (by kernel_rfl) (by kernel_rfl) ?_
                     simp only [List.take_succ_cons, List.take_zero, List.drop_succ_cons, List.drop_zero]
                     repeat still_step
                     still_call (ref_digit' _ _ _ HA2.out HA3.out HA4.out)
                     repeat still_step
                     still_call (ref_digit' _ _ _ HB2.out HB3.out HB4.out)
                     repeat still_step
                     refine wpStill_nil ?_
                     change wpList _ _ _ _ _ wr.drew
                     clear cma cmb ha1 hb1 ha0 hb0
                     go_wp2_with (first | (go_at_call 72; refine (ref_mix' vb 0 4 8 12 (gt (wordsL l) ia) (gt (wordsL l) ib) u wr wr.drew 109 HF.out.ms (by omega) (by omega) (by omega) (by omega) rfl rfl rfl rfl).mono ?_; rintro e wM ⟨rfl, hM⟩) | fail)
                     refine ⟨⟨1, by omega, by go_num, ?_⟩, by simp [intOf]⟩
                     rw [HST.out]
                     exact HF.out.upd hM.upd hM.box hM.len
                   · obtain ⟨ha0, ca, ha1, ha2, ha3, ha4⟩ := order_get (n % 10) 2 (by omega) (by omega) HOS.out
                     obtain ⟨hb0, cb, hb1, hb2, hb3, hb4⟩ := order_get (n % 10) 3 (by omega) (by omega) HOS.out
                     have w1 : IntKind.i64.wrap 2 = 2 := by decide
                     have w2 : IntKind.i64.wrap 2 = 2 := by decide
                     have w3 : IntKind.i64.wrap 3 = 3 := by decide
                     have la := orderL_lt (n % 10) 2
                     have lb := orderL_lt (n % 10) 3
                     have hstep : colL (wordsL l) (orderL (n % 10)) 2 v = mixL (colL (wordsL l) (orderL (n % 10)) 1 v) 1 5 9 13 (gt (wordsL l) (gt (orderL (n % 10)) 2)) (gt (wordsL l) (gt (orderL (n % 10)) 3)) := rfl
                     obtain ⟨ia, hia⟩ : ∃ ia, ia = gt (orderL (n % 10)) 2 := ⟨_, rfl⟩
                     obtain ⟨ib, hib⟩ : ∃ ib, ib = gt (orderL (n % 10)) 3 := ⟨_, rfl⟩
                     rw [← hia] at ha4 la hstep
                     rw [← hib] at hb4 lb hstep
                     obtain ⟨u, hu⟩ : ∃ u, u = colL (wordsL l) (orderL (n % 10)) 1 v := ⟨_, rfl⟩
                     rw [← hu] at hF hstep
                     have cma := hF.mb.cell (i := ia) (by simp [wordsL]; exact la)
                     have cmb := hF.mb.cell (i := ib) (by simp [wordsL]; exact lb)
                     have la' : (ia : Int) < 16 := by omega
                     have lb' : (ib : Int) < 16 := by omega
                     have HF := Lib.hid hF
                     have HST := Lib.hid hstep
                     have HA2 := Lib.hid ha2
                     have HA3 := Lib.hid ha3
                     have HA4 := Lib.hid ha4
                     have HB2 := Lib.hid hb2
                     have HB3 := Lib.hid hb3
                     have HB4 := Lib.hid hb4
                     clear hF hstep hu hia hib la lb ha2 ha3 ha4 hb2 hb3 hb4
                     go_wp2
                     refine wp_region_still_tail 22 (by kernel_rfl) (by kernel_rfl) ?_
                     simp only [List.take_succ_cons, List.take_zero, List.drop_succ_cons, List.drop_zero]
                     repeat still_step
                     still_call (ref_digit' _ _ _ HA2.out HA3.out HA4.out)
                     repeat still_step
                     still_call (ref_digit' _ _ _ HB2.out HB3.out HB4.out)
                     repeat still_step
                     refine wpStill_nil ?_
                     change wpList _ _ _ _ _ wr.drew
                     clear cma cmb ha1 hb1 ha0 hb0
                     go_wp2_with (first | (go_at_call 72; refine (ref_mix' vb 1 5 9 13 (gt (wordsL l) ia) (gt (wordsL l) ib) u wr wr.drew 109 HF.out.ms (by omega) (by omega) (by omega) (by omega) rfl rfl rfl rfl).mono ?_; rintro e wM ⟨rfl, hM⟩) | fail)
                     refine ⟨⟨2, by omega, by go_num, ?_⟩, by simp [intOf]⟩
                     rw [HST.out]
                     exact HF.out.upd hM.upd hM.box hM.len
                   · obtain ⟨ha0, ca, ha1, ha2, ha3, ha4⟩ := order_get (n % 10) 4 (by omega) (by omega) HOS.out
                     obtain ⟨hb0, cb, hb1, hb2, hb3, hb4⟩ := order_get (n % 10) 5 (by omega) (by omega) HOS.out
                     have w1 : IntKind.i64.wrap 4 = 4 := by decide
                     have w2 : IntKind.i64.wrap 4 = 4 := by decide
                     have w3 : IntKind.i64.wrap 5 = 5 := by decide
                     have la := orderL_lt (n % 10) 4
                     have lb := orderL_lt (n % 10) 5
                     have hstep : colL (wordsL l) (orderL (n % 10)) 3 v = mixL (colL (wordsL l) (orderL (n % 10)) 2 v) 2 6 10 14 (gt (wordsL l) (gt (orderL (n % 10)) 4)) (gt (wordsL l) (gt (orderL (n % 10)) 5)) := rfl
                     obtain ⟨ia, hia⟩ : ∃ ia, ia = gt (orderL (n % 10)) 4 := ⟨_, rfl⟩
                     obtain ⟨ib, hib⟩ : ∃ ib, ib = gt (orderL (n % 10)) 5 := ⟨_, rfl⟩
                     rw [← hia] at ha4 la hstep
                     rw [← hib] at hb4 lb hstep
                     obtain ⟨u, hu⟩ : ∃ u, u = colL (wordsL l) (orderL (n % 10)) 2 v := ⟨_, rfl⟩
                     rw [← hu] at hF hstep
                     have cma := hF.mb.cell (i := ia) (by simp [wordsL]; exact la)
                     have cmb := hF.mb.cell (i := ib) (by simp [wordsL]; exact lb)
                     have la' : (ia : Int) < 16 := by omega
                     have lb' : (ib : Int) < 16 := by omega
                     have HF := Lib.hid hF
                     have HST := Lib.hid hstep
                     have HA2 := Lib.hid ha2
                     have HA3 := Lib.hid ha3
                     have HA4 := Lib.hid ha4
                     have HB2 := Lib.hid hb2
                     have HB3 := Lib.hid hb3
                     have HB4 := Lib.hid hb4
                     clear hF hstep hu hia hib la lb ha2 ha3 ha4 hb2 hb3 hb4
                     go_wp2
                     refine wp_region_still_tail 22 (by kernel_rfl) (by kernel_rfl) ?_
                     simp only [List.take_succ_cons, List.take_zero, List.drop_succ_cons, List.drop_zero]
                     repeat still_step
                     still_call (ref_digit' _ _ _ HA2.out HA3.out HA4.out)
                     repeat still_step
                     still_call (ref_digit' _ _ _ HB2.out HB3.out HB4.out)
                     repeat still_step
                     refine wpStill_nil ?_
                     change wpList _ _ _ _ _ wr.drew
                     clear cma cmb ha1 hb1 ha0 hb0
                     go_wp2_with (first | (go_at_call 72; refine (ref_mix' vb 2 6 10 14 (gt (wordsL l) ia) (gt (wordsL l) ib) u wr wr.drew 109 HF.out.ms (by omega) (by omega) (by omega) (by omega) rfl rfl rfl rfl).mono ?_; rintro e wM ⟨rfl, hM⟩) | fail)
                     refine ⟨⟨3, by omega, by go_num, ?_⟩, by simp [intOf]⟩
                     rw [HST.out]
                     exact HF.out.upd hM.upd hM.box hM.len
                   · obtain ⟨ha0, ca, ha1, ha2, ha3, ha4⟩ := order_get (n % 10) 6 (by omega) (by omega) HOS.out
                     obtain ⟨hb0, cb, hb1, hb2, hb3, hb4⟩ := order_get (n % 10) 7 (by omega) (by omega) HOS.out
                     have w1 : IntKind.i64.wrap 6 = 6 := by decide
                     have w2 : IntKind.i64.wrap 6 = 6 := by decide
                     have w3 : IntKind.i64.wrap 7 = 7 := by decide
                     have la := orderL_lt (n % 10) 6
                     have lb := orderL_lt (n % 10) 7
                     have hstep : colL (wordsL l) (orderL (n % 10)) 4 v = mixL (colL (wordsL l) (orderL (n % 10)) 3 v) 3 7 11 15 (gt (wordsL l) (gt (orderL (n % 10)) 6)) (gt (wordsL l) (gt (orderL (n % 10)) 7)) := rfl
                     obtain ⟨ia, hia⟩ : ∃ ia, ia = gt (orderL (n % 10)) 6 := ⟨_, rfl⟩
                     obtain ⟨ib, hib⟩ : ∃ ib, ib = gt (orderL (n % 10)) 7 := ⟨_, rfl⟩
                     rw [← hia] at ha4 la hstep
                     rw [← hib] at hb4 lb hstep
                     obtain ⟨u, hu⟩ : ∃ u, u = colL (wordsL l) (orderL (n % 10)) 3 v := ⟨_, rfl⟩
                     rw [← hu] at hF hstep
                     have cma := hF.mb.cell (i := ia) (by simp [wordsL]; exact la)
                     have cmb := hF.mb.cell (i := ib) (by simp [wordsL]; exact lb)
                     have la' : (ia : Int) < 16 := by omega
                     have lb' : (ib : Int) < 16 := by omega
                     have HF := Lib.hid hF
                     have HST := Lib.hid hstep
                     have HA2 := Lib.hid ha2
                     have HA3 := Lib.hid ha3
                     have HA4 := Lib.hid ha4
                     have HB2 := Lib.hid hb2
                     have HB3 := Lib.hid hb3
                     have HB4 := Lib.hid hb4
                     clear hF hstep hu hia hib la lb ha2 ha3 ha4 hb2 hb3 hb4
                     go_wp2
                     refine wp_region_still_tail 22 (by kernel_rfl) (by kernel_rfl) ?_
                     simp only [List.take_succ_cons, List.take_zero, List.drop_succ_cons, List.drop_zero]
                     repeat still_step
                     still_call (ref_digit' _ _ _ HA2.out HA3.out HA4.out)
                     repeat still_step
                     still_call (ref_digit' _ _ _ HB2.out HB3.out HB4.out)
                     repeat still_step
                     refine wpStill_nil ?_
                     change wpList _ _ _ _ _ wr.drew
                     clear cma cmb ha1 hb1 ha0 hb0
                     go_wp2_with (first | (go_at_call 72; refine (ref_mix' vb 3 7 11 15 (gt (wordsL l) ia) (gt (wordsL l) ib) u wr wr.drew 109 HF.out.ms (by omega) (by omega) (by omega) (by omega) rfl rfl rfl rfl).mono ?_; rintro e wM ⟨rfl, hM⟩) | fail)
                     refine ⟨⟨4, by omega, by go_num, ?_⟩, by simp [intOf]⟩
                     rw [HST.out]
                     exact HF.out.upd hM.upd hM.box hM.len
                 · have hj4 : j = 4 := by omega
                   subst hj4
                   rw [show ((4 : Nat) : Int) = 4 from rfl]
                   obtain ⟨c4, hc4⟩ : ∃ c4, c4 = colL (wordsL l) (orderL (n % 10)) 4 v := ⟨_, rfl⟩
                   rw [← hc4] at hF
                   have HRN2 := Lib.hid hc4
                   have HVD := Lib.hid hF
                   clear hF hc4
                   go_wp2
                   go_loopw [18] (fun k wr' => ∃ j : Nat, j ≤ 4 ∧ k = .int .i64 j ∧ F7 w vb gb h8 (wordsL l) (diaL (wordsL l) (orderL (n % 10)) j c4) wr') (fun k _ => 4 - (intOf k).toNat)
                   case atStart => exact ⟨0, by omega, rfl, HVD.out⟩
                   case round =>
                     obtain ⟨j, hj, rfl, hF⟩ := hrel
                     by_cases hjl : j < 4
                     · have hj4 : j = 0 ∨ j = 1 ∨ j = 2 ∨ j = 3 := by omega
                       rcases hj4 with rfl | rfl | rfl | rfl
                       · obtain ⟨ha0, ca, ha1, ha2, ha3, ha4⟩ := order_get (n % 10) 8 (by omega) (by omega) HOS.out
                         obtain ⟨hb0, cb, hb1, hb2, hb3, hb4⟩ := order_get (n % 10) 9 (by omega) (by omega) HOS.out
                         have w1 : IntKind.i64.wrap 0 = 0 := by decide
                         have w2 : IntKind.i64.wrap 8 = 8 := by decide
                         have w3 : IntKind.i64.wrap 9 = 9 := by decide
                         have la := orderL_lt (n % 10) 8
                         have lb := orderL_lt (n % 10) 9
                         have hstep : diaL (wordsL l) (orderL (n % 10)) 1 c4 = mixL (diaL (wordsL l) (orderL (n % 10)) 0 c4) 0 5 10 15 (gt (wordsL l) (gt (orderL (n % 10)) 8)) (gt (wordsL l) (gt (orderL (n % 10)) 9)) := rfl
                         obtain ⟨ia, hia⟩ : ∃ ia, ia = gt (orderL (n % 10)) 8 := ⟨_, rfl⟩
                         obtain ⟨ib, hib⟩ : ∃ ib, ib = gt (orderL (n % 10)) 9 := ⟨_, rfl⟩
                         rw [← hia] at ha4 la hstep
                         rw [← hib] at hb4 lb hstep
                         obtain ⟨u, hu⟩ : ∃ u, u = diaL (wordsL l) (orderL (n % 10)) 0 c4 := ⟨_, rfl⟩
                         rw [← hu] at hF hstep
                         have cma := hF.mb.cell (i := ia) (by simp [wordsL]; exact la)
                         have cmb := hF.mb.cell (i := ib) (by simp [wordsL]; exact lb)
                         have la' : (ia : Int) < 16 := by omega
                         have lb' : (ib : Int) < 16 := by omega
                         have HF := Lib.hid hF
                         have HST := Lib.hid hstep
                         have HA2 := Lib.hid ha2
                         have HA3 := Lib.hid ha3
                         have HA4 := Lib.hid ha4
                         have HB2 := Lib.hid hb2
                         have HB3 := Lib.hid hb3
                         have HB4 := Lib.hid hb4
                         clear hF hstep hu hia hib la lb ha2 ha3 ha4 hb2 hb3 hb4
                         go_wp2
                         refine wp_region_still_tail 29 (by kernel_rfl) (by kernel_rfl) ?_
                         simp only [List.take_succ_cons, List.take_zero, List.drop_succ_cons, List.drop_zero]
                         repeat still_step
                         still_call (ref_digit' _ _ _ HA2.out HA3.out HA4.out)
                         repeat still_step
                         still_call (ref_digit' _ _ _ HB2.out HB3.out HB4.out)
                         repeat still_step
                         refine wpStill_nil ?_
                         change wpList _ _ _ _ _ wr.drew
                         clear cma cmb ha1 hb1 ha0 hb0
                         go_wp2_with (first | (go_at_call 72; refine (ref_mix' vb 0 5 10 15 (gt (wordsL l) ia) (gt (wordsL l) ib) u wr wr.drew 109 HF.out.ms (by omega) (by omega) (by omega) (by omega) rfl rfl rfl rfl).mono ?_; rintro e wM ⟨rfl, hM⟩) | fail)
                         refine ⟨⟨1, by omega, by go_num, ?_⟩, by simp [intOf]⟩
                         rw [HST.out]
                         exact HF.out.upd hM.upd hM.box hM.len
                       · obtain ⟨ha0, ca, ha1, ha2, ha3, ha4⟩ := order_get (n % 10) 10 (by omega) (by omega) HOS.out
                         obtain ⟨hb0, cb, hb1, hb2, hb3, hb4⟩ := order_get (n % 10) 11 (by omega) (by omega) HOS.out
                         have w1 : IntKind.i64.wrap 2 = 2 := by decide
                         have w2 : IntKind.i64.wrap 10 = 10 := by decide
                         have w3 : IntKind.i64.wrap 11 = 11 := by decide
                         have la := orderL_lt (n % 10) 10
                         have lb := orderL_lt (n % 10) 11
                         have hstep : diaL (wordsL l) (orderL (n % 10)) 2 c4 = mixL (diaL (wordsL l) (orderL (n % 10)) 1 c4) 1 6 11 12 (gt (wordsL l) (gt (orderL (n % 10)) 10)) (gt (wordsL l) (gt (orderL (n % 10)) 11)) := rfl
                         obtain ⟨ia, hia⟩ : ∃ ia, ia = gt (orderL (n % 10)) 10 := ⟨_, rfl⟩
                         obtain ⟨ib, hib⟩ : ∃ ib, ib = gt (orderL (n % 10)) 11 := ⟨_, rfl⟩
                         rw [← hia] at ha4 la hstep
                         rw [← hib] at hb4 lb hstep
                         obtain ⟨u, hu⟩ : ∃ u, u = diaL (wordsL l) (orderL (n % 10)) 1 c4 := ⟨_, rfl⟩
                         rw [← hu] at hF hstep
                         have cma := hF.mb.cell (i := ia) (by simp [wordsL]; exact la)
                         have cmb := hF.mb.cell (i := ib) (by simp [wordsL]; exact lb)
                         have la' : (ia : Int) < 16 := by omega
                         have lb' : (ib : Int) < 16 := by omega
                         have HF := Lib.hid hF
                         have HST := Lib.hid hstep
                         have HA2 := Lib.hid ha2
                         have HA3 := Lib.hid ha3
                         have HA4 := Lib.hid ha4
                         have HB2 := Lib.hid hb2
                         have HB3 := Lib.hid hb3
                         have HB4 := Lib.hid hb4
                         clear hF hstep hu hia hib la lb ha2 ha3 ha4 hb2 hb3 hb4
                         go_wp2
                         refine wp_region_still_tail 29 (by kernel_rfl) (by kernel_rfl) ?_
                         simp only [List.take_succ_cons, List.take_zero, List.drop_succ_cons, List.drop_zero]
                         repeat still_step
                         still_call (ref_digit' _ _ _ HA2.out HA3.out HA4.out)
                         repeat still_step
                         still_call (ref_digit' _ _ _ HB2.out HB3.out HB4.out)
                         repeat still_step
                         refine wpStill_nil ?_
                         change wpList _ _ _ _ _ wr.drew
                         clear cma cmb ha1 hb1 ha0 hb0
                         go_wp2_with (first | (go_at_call 72; refine (ref_mix' vb 1 6 11 12 (gt (wordsL l) ia) (gt (wordsL l) ib) u wr wr.drew 109 HF.out.ms (by omega) (by omega) (by omega) (by omega) rfl rfl rfl rfl).mono ?_; rintro e wM ⟨rfl, hM⟩) | fail)
                         refine ⟨⟨2, by omega, by go_num, ?_⟩, by simp [intOf]⟩
                         rw [HST.out]
                         exact HF.out.upd hM.upd hM.box hM.len
                       · obtain ⟨ha0, ca, ha1, ha2, ha3, ha4⟩ := order_get (n % 10) 12 (by omega) (by omega) HOS.out
                         obtain ⟨hb0, cb, hb1, hb2, hb3, hb4⟩ := order_get (n % 10) 13 (by omega) (by omega) HOS.out
                         have w1 : IntKind.i64.wrap 4 = 4 := by decide
                         have w2 : IntKind.i64.wrap 12 = 12 := by decide
                         have w3 : IntKind.i64.wrap 13 = 13 := by decide
                         have la := orderL_lt (n % 10) 12
                         have lb := orderL_lt (n % 10) 13
                         have hstep : diaL (wordsL l) (orderL (n % 10)) 3 c4 = mixL (diaL (wordsL l) (orderL (n % 10)) 2 c4) 2 7 8 13 (gt (wordsL l) (gt (orderL (n % 10)) 12)) (gt (wordsL l) (gt (orderL (n % 10)) 13)) := rfl
                         obtain ⟨ia, hia⟩ : ∃ ia, ia = gt (orderL (n % 10)) 12 := ⟨_, rfl⟩
                         obtain ⟨ib, hib⟩ : ∃ ib, ib = gt (orderL (n % 10)) 13 := ⟨_, rfl⟩
                         rw [← hia] at ha4 la hstep
                         rw [← hib] at hb4 lb hstep
                         obtain ⟨u, hu⟩ : ∃ u, u = diaL (wordsL l) (orderL (n % 10)) 2 c4 := ⟨_, rfl⟩
                         rw [← hu] at hF hstep
                         have cma := hF.mb.cell (i := ia) (by simp [wordsL]; exact la)
                         have cmb := hF.mb.cell (i := ib) (by simp [wordsL]; exact lb)
                         have la' : (ia : Int) < 16 := by omega
                         have lb' : (ib : Int) < 16 := by omega
                         have HF := Lib.hid hF
                         have HST := Lib.hid hstep
                         have HA2 := Lib.hid ha2
                         have HA3 := Lib.hid ha3
                         have HA4 := Lib.hid ha4
                         have HB2 := Lib.hid hb2
                         have HB3 := Lib.hid hb3
                         have HB4 := Lib.hid hb4
                         clear hF hstep hu hia hib la lb ha2 ha3 ha4 hb2 hb3 hb4
                         go_wp2
                         refine wp_region_still_tail 29 (by kernel_rfl) (by kernel_rfl) ?_
                         simp only [List.take_succ_cons, List.take_zero, List.drop_succ_cons, List.drop_zero]
                         repeat still_step
                         still_call (ref_digit' _ _ _ HA2.out HA3.out HA4.out)
                         repeat still_step
                         still_call (ref_digit' _ _ _ HB2.out HB3.out HB4.out)
                         repeat still_step
                         refine wpStill_nil ?_
                         change wpList _ _ _ _ _ wr.drew
                         clear cma cmb ha1 hb1 ha0 hb0
                         go_wp2_with (first | (go_at_call 72; refine (ref_mix' vb 2 7 8 13 (gt (wordsL l) ia) (gt (wordsL l) ib) u wr wr.drew 109 HF.out.ms (by omega) (by omega) (by omega) (by omega) rfl rfl rfl rfl).mono ?_; rintro e wM ⟨rfl, hM⟩) | fail)
                         refine ⟨⟨3, by omega, by go_num, ?_⟩, by simp [intOf]⟩
                         rw [HST.out]
                         exact HF.out.upd hM.upd hM.box hM.len
                       · obtain ⟨ha0, ca, ha1, ha2, ha3, ha4⟩ := order_get (n % 10) 14 (by omega) (by omega) HOS.out
                         obtain ⟨hb0, cb, hb1, hb2, hb3, hb4⟩ := order_get (n % 10) 15 (by omega) (by omega) HOS.out
                         have w1 : IntKind.i64.wrap 6 = 6 := by decide
                         have w2 : IntKind.i64.wrap 14 = 14 := by decide
                         have w3 : IntKind.i64.wrap 15 = 15 := by decide
                         have la := orderL_lt (n % 10) 14
                         have lb := orderL_lt (n % 10) 15
                         have hstep : diaL (wordsL l) (orderL (n % 10)) 4 c4 = mixL (diaL (wordsL l) (orderL (n % 10)) 3 c4) 3 4 9 14 (gt (wordsL l) (gt (orderL (n % 10)) 14)) (gt (wordsL l) (gt (orderL (n % 10)) 15)) := rfl
                         obtain ⟨ia, hia⟩ : ∃ ia, ia = gt (orderL (n % 10)) 14 := ⟨_, rfl⟩
                         obtain ⟨ib, hib⟩ : ∃ ib, ib = gt (orderL (n % 10)) 15 := ⟨_, rfl⟩
                         rw [← hia] at ha4 la hstep
                         rw [← hib] at hb4 lb hstep
                         obtain ⟨u, hu⟩ : ∃ u, u = diaL (wordsL l) (orderL (n % 10)) 3 c4 := ⟨_, rfl⟩
                         rw [← hu] at hF hstep
                         have cma := hF.mb.cell (i := ia) (by simp [wordsL]; exact la)
                         have cmb := hF.mb.cell (i := ib) (by simp [wordsL]; exact lb)
                         have la' : (ia : Int) < 16 := by omega
                         have lb' : (ib : Int) < 16 := by omega
                         have HF := Lib.hid hF
                         have HST := Lib.hid hstep
                         have HA2 := Lib.hid ha2
                         have HA3 := Lib.hid ha3
                         have HA4 := Lib.hid ha4
                         have HB2 := Lib.hid hb2
                         have HB3 := Lib.hid hb3
                         have HB4 := Lib.hid hb4
                         clear hF hstep hu hia hib la lb ha2 ha3 ha4 hb2 hb3 hb4
                         go_wp2
                         refine wp_region_still_tail 29 (by kernel_rfl) (by kernel_rfl) ?_
                         simp only [List.take_succ_cons, List.take_zero, List.drop_succ_cons, List.drop_zero]
                         repeat still_step
                         still_call (ref_digit' _ _ _ HA2.out HA3.out HA4.out)
                         repeat still_step
                         still_call (ref_digit' _ _ _ HB2.out HB3.out HB4.out)
                         repeat still_step
                         refine wpStill_nil ?_
                         change wpList _ _ _ _ _ wr.drew
                         clear cma cmb ha1 hb1 ha0 hb0
                         go_wp2_with (first | (go_at_call 72; refine (ref_mix' vb 3 4 9 14 (gt (wordsL l) ia) (gt (wordsL l) ib) u wr wr.drew 109 HF.out.ms (by omega) (by omega) (by omega) (by omega) rfl rfl rfl rfl).mono ?_; rintro e wM ⟨rfl, hM⟩) | fail)
                         refine ⟨⟨4, by omega, by go_num, ?_⟩, by simp [intOf]⟩
                         rw [HST.out]
                         exact HF.out.upd hM.upd hM.box hM.len
                     · have hj4 : j = 4 := by omega
                       subst hj4
                       rw [show ((4 : Nat) : Int) = 4 from rfl]
                       have HF := Lib.hid hF
                       clear hF
                       go_wp2
                       refine ⟨⟨n + 1, by omega, by go_num, ?_⟩, by simp [intOf]; omega⟩
                       rw [HRN.out, ← HRN2.out]
                       exact HF.out
             · have hn12 : n = 12 := by omega
               subst hn12
               rw [show ((12 : Nat) : Int) = 12 from rfl]
               obtain ⟨v, hv⟩ : ∃ v, v = roundsL (wordsL l) 12 V := ⟨_, rfl⟩
               rw [← hv] at hF
               have hfold : blockL h8 (wordsL l) count last = foldL h8 v := by rw [hv, HVV.out]; rfl
               have HFO := Lib.hid hfold
               have HF := Lib.hid hF
               clear hF hv hfold
               go_wp2
               go_loopw [19] (fun i wr => ∃ n : Nat, n ≤ 8 ∧ i = .int .i64 n ∧ ∃ x, F7 w vb gb x (wordsL l) v wr ∧ x.length = 8 ∧ Folded h8 v x n) (fun i _ => 8 - (intOf i).toNat)
               case atStart => exact ⟨0, by omega, rfl, h8, HF.out, hh, fun t ht => by omega, fun t _ => rfl⟩
               case round =>
                obtain ⟨n, hn, rfl, x, hF, hxl, hM⟩ := hrel
                by_cases hlt : n < 8
                · have hlt' : (n : Int) < 8 := by omega
                  have hlt2 : (n : Int) < 16 := by omega
                  obtain ⟨n8, hn8⟩ : ∃ n8, n8 = n + 8 := ⟨_, rfl⟩
                  have W1 : IntKind.i64.wrap ((n : Int) + 8) = (n8 : Int) := by rw [IntWalk.i64_in _ (by omega)]; omega
                  have hlt3 : (n8 : Int) < 16 := by omega
                  have c1 := hF.hb.cell (i := n) (by rw [hxl]; exact hlt)
                  have f1 := hF.hb.frozen n
                  have c3 := hF.vbx.cell (i := n) (by rw [hF.vl]; omega)
                  have c4 := hF.vbx.cell (i := n8) (by rw [hF.vl]; omega)
                  have s1 := hF.hb.small n
                  have s2 := hF.vbx.small n
                  have s3 := hF.vbx.small n8
                  have s12 := Nat.xor_lt_two_pow (n := 64) s1 s2
                  have X1 := bits_xor_u64_nat _ _ s1 s2
                  have X2 := bits_xor_u64_nat _ _ s12 s3
                  have s123 := Nat.xor_lt_two_pow (n := 64) s12 s3
                  have HN := Lib.hid (hF.seth n hxl s123).drew
                  have hM2 : Folded h8 v (x.set n (gt x n ^^^ gt v n ^^^ gt v n8)) (n + 1) := by
                    refine ⟨fun t ht => ?_, fun t ht => ?_⟩
                    · by_cases e : t = n
                      · subst e; rw [gt_set_same (by omega), hM.2 t (Nat.le_refl _), hn8]
                      · rw [gt_set_ne (by omega)]; exact hM.1 t (by omega)
                    · rw [gt_set_ne (by omega)]; exact hM.2 t (by omega)
                  have HM2 := Lib.hid hM2
                  have HXL := Lib.hid hxl
                  clear hF hM hM2 hxl hn8 s1 s2 s3 s12 s123
                  go_wp2
                  go_still_tail 14, (by kernel_rfl)
                  go_wp2
                  exact ⟨⟨n + 1, by omega, by go_num, _, HN.out, by rw [List.length_set]; exact HXL.out, HM2.out⟩, by simp [intOf]; omega⟩
                · have hn8 : n = 8 := by omega
                  subst hn8
                  rw [show ((8 : Nat) : Int) = 8 from rfl]
                  have hx : x = foldL h8 v := by
                    refine ext_gt (by rw [hxl]; simp [foldL]) fun i hi => ?_
                    rw [hxl] at hi
                    rw [hM.1 i hi, foldL, gt_map_range hi]
                  rw [← HFO.out] at hx
                  have hW := Ws8 x hxl
                  rw [hx] at hW
                  have HW := Lib.hid hW
                  have c0 := hF.hb.cell (i := 0) (by omega)
                  have c1 := hF.hb.cell (i := 1) (by omega)
                  have c2 := hF.hb.cell (i := 2) (by omega)
                  have c3 := hF.hb.cell (i := 3) (by omega)
                  have c4 := hF.hb.cell (i := 4) (by omega)
                  have c5 := hF.hb.cell (i := 5) (by omega)
                  have c6 := hF.hb.cell (i := 6) (by omega)
                  have c7 := hF.hb.cell (i := 7) (by omega)
                  have z0 := hF.zb.cell (i := 0) (by simp)
                  have f0 := hF.zb.frozen 0
                  have z1 := hF.zb.cell (i := 1) (by simp)
                  have f1 := hF.zb.frozen 1
                  have z2 := hF.zb.cell (i := 2) (by simp)
                  have f2 := hF.zb.frozen 2
                  have z3 := hF.zb.cell (i := 3) (by simp)
                  have f3 := hF.zb.frozen 3
                  have z4 := hF.zb.cell (i := 4) (by simp)
                  have f4 := hF.zb.frozen 4
                  have z5 := hF.zb.cell (i := 5) (by simp)
                  have f5 := hF.zb.frozen 5
                  have z6 := hF.zb.cell (i := 6) (by simp)
                  have f6 := hF.zb.frozen 6
                  have z7 := hF.zb.cell (i := 7) (by simp)
                  have f7 := hF.zb.frozen 7
                  rw [hx] at c0 c1 c2 c3 c4 c5 c6 c7
                  have HO := Lib.hid hF.old
                  clear hF hx hM hxl hW
                  go_wp2
                  refine bodyPost_ret (v := .agg #[.int .u64 (gt (blockL h8 (wordsL l) count last) 0 : Nat), .int .u64 (gt (blockL h8 (wordsL l) count last) 1 : Nat), .int .u64 (gt (blockL h8 (wordsL l) count last) 2 : Nat), .int .u64 (gt (blockL h8 (wordsL l) count last) 3 : Nat), .int .u64 (gt (blockL h8 (wordsL l) count last) 4 : Nat), .int .u64 (gt (blockL h8 (wordsL l) count last) 5 : Nat), .int .u64 (gt (blockL h8 (wordsL l) count last) 6 : Nat), .int .u64 (gt (blockL h8 (wordsL l) count last) 7 : Nat)]) (by simp [results, Tryd.results54, go_sem, *]) rfl ⟨by simp only [vec8, HW.out], ?_⟩
                  exact (((((((HO.out.setCell (Nat.le_succ _) _).setCell (Nat.le_succ _) _).setCell (Nat.le_succ _) _).setCell (Nat.le_succ _) _).setCell (Nat.le_succ _) _).setCell (Nat.le_succ _) _).setCell (Nat.le_succ _) _).setCell (Nat.le_succ _) _
end Go.Proofs.YtbndegkgpoemnaaDoor
