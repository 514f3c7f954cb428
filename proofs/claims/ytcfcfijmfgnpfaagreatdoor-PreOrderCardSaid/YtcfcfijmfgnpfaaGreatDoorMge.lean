/-
  Joined texts.
-/
import Derived.BigRegion
import Derived.RegionTactic
import Derived.Deep.DeepCutAuto
import Derived.Deep.MidRow
import Derived.StillTailTactics
import Derived.Laws.CopyOwn
import Derived.WalkKit
import Derived.Laws.AppendOwn
import Derived.Test.YtcfcfijmfgnpfaaGreatDoorMgd

section
namespace Go.Proofs.YtcfcfijmfgnpfaaGreatDoor
open Go.RowKit
set_option linter.unusedVariables false
set_option linter.unusedSimpArgs false

/-- Bytes that a slice holds, in one place. -/
structure Bytes (w : World) (blk off : Nat) (l : List Nat) : Prop where
  lt : blk < w.heap.size
  cell : ∀ i, i < l.length → w.cell? ⟨blk, off + i, none⟩ = some (.int .u8 (gt l i : Nat))
  small : ∀ i, gt l i < 256
theorem Bytes.below {w w' : World} {blk off : Nat} {l : List Nat} (h : Bytes w blk off l) {N : Nat} (hb : Below N w w') (hN : blk < N) : Bytes w' blk off l :=
  ⟨Nat.lt_of_lt_of_le h.lt hb.size, fun i hi => (hb.cell (p := ⟨blk, _, none⟩) hN).trans (h.cell i hi), h.small⟩

theorem WBox.keep {t : TypeId} {b : Nat} {l : List Nat} {w w' : World} (h : WBox t b l w) (hk : w'.heap[b]? = w.heap[b]?) : WBox t b l w' := ⟨hk.trans h.at_, h.small⟩

/-- The bytes of a word from the highest down. -/
def hiW (p : List Nat) (o : Nat) : Nat → Nat
  | 0 => 0
  | n + 1 => hiW p o n * 256 + gt p (o + (7 - n))
theorem hiW_lt {p : List Nat} (hp : ∀ i, gt p i < 256) (o : Nat) : ∀ n, hiW p o n < 256 ^ n
  | 0 => by simp [hiW]
  | n + 1 => by
    have h1 := hiW_lt hp o n
    have h2 := hp (o + (7 - n))
    simp only [hiW, Nat.pow_succ]
    omega
theorem hiW_all (p : List Nat) (o : Nat) : hiW p o 8 = wordTo p o 8 := by
  simp only [hiW, wordTo, Nat.reduceSub, Nat.reducePow]
  omega
theorem or_byteK (x c : Nat) (hx : x < 72057594037927936) (hc : c < 256) : bits .or .u64 (IntKind.u64.wrap ((x : Int) * 256)) (c : Int) = ((x * 256 + c : Nat) : Int) := by
  have h2 : IntKind.u64.wrap ((x : Int) * 256) = ((x * 256 : Nat) : Int) := by rw [IntKind.wrap_u64]; omega
  rw [h2, bits_or_u64_nat _ _ (by omega) (by omega)]
  have := Nat.two_pow_add_eq_or_of_lt (i := 8) (b := c) (by omega) x
  rw [Nat.mul_comm x 256]
  exact_mod_cast this.symm

theorem not64 (x : Nat) (hx : x < 18446744073709551616) : bits .xor .u64 IntKind.u64.max (x : Int) = ((18446744073709551615 - x : Nat) : Int) := by
  have e : IntKind.u64.max = ((18446744073709551615 : Nat) : Int) := rfl
  rw [e, bits_xor_u64_nat _ _ (by decide) hx]
  congr 1
  have h := BitVec.allOnes_xor (x := BitVec.ofNat 64 x)
  have h2 := congrArg BitVec.toNat h
  rw [BitVec.toNat_xor, BitVec.toNat_not, BitVec.toNat_allOnes, BitVec.toNat_ofNat, Nat.mod_eq_of_lt (by simpa using hx)] at h2
  simpa using h2
theorem ref_digit' (c : Nat) (i : Nat) (w : World) (h1 : 48 ≤ c) (h2 : c < 256) (h : digitN c = i) :
    Calls Tryz.prog 99 #[.int .u8 (c : Nat)] w fun e w' => e = .returned (.int .i64 (i : Nat)) ∧ w' = w := by
  subst h; exact ref_digit _ w h1 h2
theorem ref_mix' (blk a b c d x y : Nat) (l : List Nat) (w0 w1 : World) (t : TypeId) (hM : MS t blk w0 l w1) (ha : a < 16) (hb : b < 16) (hc : c < 16) (hd : d < 16) {A B C D : Int} (hA : A = (a : Int)) (hB : B = (b : Int)) (hC : C = (c : Int)) (hD : D = (d : Int)) :
    Calls Tryz.prog 98 #[.pointer (some ⟨blk, 0, none⟩), .int .i64 A, .int .i64 B, .int .i64 C, .int .i64 D, .int .u64 x, .int .u64 y] w1 fun e w' => e = .returned (.tuple #[]) ∧ MS t blk w0 (mixL l a b c d x y) w' := by
  subst hA hB hC hD; exact ref_mix blk a b c d x y l w0 w1 t hM ha hb hc hd

/-- The frame while m is made: h, the result's cells, m. -/
structure F6 (w : World) (h m : List Nat) (wr : World) : Prop where
  hb : WBox 140 w.heap.size h wr
  zb : WBox 140 (w.heap.size + 1) (List.replicate 8 0) wr
  mb : WBox 162 (w.heap.size + 1 + 1) m wr
  ml : m.length = 16
  old : Below w.heap.size w wr
theorem F6.set {w wr : World} {h m : List Nat} (f : F6 w h m wr) (i : Nat) {x : Nat} (hx : x < 18446744073709551616) : F6 w h (m.set i x) (wr.setCell ⟨w.heap.size + 1 + 1, i, none⟩ (.int .u64 (x : Nat))).drew := by
  have k := f.mb.set i hx
  exact ⟨f.hb.keep (set_other (by simp only; omega)), f.zb.keep (set_other (by simp)), ⟨k.at_, k.small⟩, by simp [f.ml], (f.old.setCell (by simp only; omega) _).trans ⟨rfl, rfl, rfl, Nat.le_refl _, fun _ _ => rfl⟩⟩
/-- The frame behind it: v and V too. -/
structure F7 (w : World) (vb gb : Nat) (h m v : List Nat) (wr : World) : Prop where
  hb : WBox 140 w.heap.size h wr
  zb : WBox 140 (w.heap.size + 1) (List.replicate 8 0) wr
  mb : WBox 162 (w.heap.size + 1 + 1) m wr
  vbx : WBox 162 vb v wr
  gbx : WBox 140 gb beginL wr
  vl : v.length = 16
  n1 : w.heap.size + 1 + 1 < vb
  n2 : vb < gb
  old : Below w.heap.size w wr
theorem F7.upd {w wr w' : World} {vb gb : Nat} {h m v v' : List Nat} (f : F7 w vb gb h m v wr) (hu : Upd vb wr w') (hv : WBox 162 vb v' w') (hl : v'.length = 16) : F7 w vb gb h m v' w' := by
  have a1 := f.n1
  have a2 := f.n2
  exact ⟨f.hb.keep (hu.block _ (by omega)), f.zb.keep (hu.block _ (by omega)), f.mb.keep (hu.block _ (by omega)), hv, f.gbx.keep (hu.block _ (by omega)), hl, a1, a2, f.old.trans (hu.below (by omega))⟩
theorem F7.set {w wr : World} {vb gb : Nat} {h m v : List Nat} (f : F7 w vb gb h m v wr) (i : Nat) {x : Nat} (hx : x < 18446744073709551616) : F7 w vb gb h m (v.set i x) (wr.setCell ⟨vb, i, none⟩ (.int .u64 (x : Nat))) :=
  f.upd ((Upd.refl vb wr).set _ _) (f.vbx.set i hx) (by simp [f.vl])
theorem F7.seth {w wr : World} {vb gb : Nat} {h m v : List Nat} (f : F7 w vb gb h m v wr) (i : Nat) (hl : h.length = 8) {x : Nat} (hx : x < 18446744073709551616) : F7 w vb gb (h.set i x) m v (wr.setCell ⟨w.heap.size, i, none⟩ (.int .u64 (x : Nat))) := by
  have a1 := f.n1
  have a2 := f.n2
  exact ⟨f.hb.set i hx, f.zb.keep (set_other (by simp)), f.mb.keep (set_other (by simp only; omega)), f.vbx.keep (set_other (by simp only; omega)), f.gbx.keep (set_other (by simp only; omega)), f.vl, a1, a2, f.old.setCell (Nat.le_refl _) _⟩
theorem F7.drew {w wr : World} {vb gb : Nat} {h m v : List Nat} (f : F7 w vb gb h m v wr) : F7 w vb gb h m v wr.drew :=
  f.upd (Upd.refl vb wr).drew ⟨f.vbx.at_, f.vbx.small⟩ f.vl
theorem F7.ms {w wr : World} {vb gb : Nat} {h m v : List Nat} (f : F7 w vb gb h m v wr) : MS 162 vb wr v wr.drew := ⟨⟨f.vbx.at_, f.vbx.small⟩, f.vl, (Upd.refl vb wr).drew⟩
/-- i words of v and of its other half are laid. -/
def Laid (h v : List Nat) (n : Nat) : Prop := ∀ t, t < n → gt v t = gt h t ∧ gt v (t + 8) = gt beginL t
/-- n words of h are folded. -/
def Folded (h v x : List Nat) (n : Nat) : Prop := (∀ t, t < n → gt x t = gt h t ^^^ gt v t ^^^ gt v (t + 8)) ∧ ∀ t, n ≤ t → gt x t = gt h t
theorem Ws8 (x : List Nat) (h : x.length = 8) : Ws x = #[.int .u64 (gt x 0 : Nat), .int .u64 (gt x 1 : Nat), .int .u64 (gt x 2 : Nat), .int .u64 (gt x 3 : Nat), .int .u64 (gt x 4 : Nat), .int .u64 (gt x 5 : Nat), .int .u64 (gt x 6 : Nat), .int .u64 (gt x 7 : Nat)] := by
  match x, h with
  | [a, b, c, d, e, f, g, i], _ => rfl
/-- i words of m are made. -/
def Made (l m : List Nat) (i : Nat) : Prop := (∀ t, t < i → gt m t = wordTo l (8 * t) 8) ∧ ∀ t, i ≤ t → gt m t = 0
/-- .. and n bytes of the next one. -/
def Making (l m : List Nat) (i n : Nat) : Prop := (∀ t, t < i → gt m t = wordTo l (8 * t) 8) ∧ gt m i = hiW l (8 * i) n ∧ ∀ t, i < t → gt m t = 0

set_option maxHeartbeats 4000000 in
set_option maxRecDepth 100000 in
theorem ref_block (h8 l : List Nat) (blk off cap count : Nat) (last : Bool) (w : World) (hh : h8.length = 8) (hs : Small h8) (hl : l.length = 128) (hr : Bytes w blk off l) (hcap : 128 ≤ cap) (hc : count < 9223372036854775808) :
    Calls Tryz.prog 80 #[vec8 h8, .slice (some ⟨blk, off, none⟩) 128 cap, .int .i64 (count : Nat), .bool last] w fun e w' => e = .returned (vec8 (blockL h8 (wordsL l) count last)) ∧ Below w.heap.size w w' := by
  have HR := Lib.hid hr
  have HL := Lib.hid hl
  have HS := Lib.hid hs
  clear hr hl hs
  go_enter Tryz.func80, Tryz.ntmps80
  go_wp2
  go_loopw [10] (fun i wr => ∃ n : Nat, n ≤ 16 ∧ i = .int .i64 n ∧ ∃ m, F6 w h8 m wr ∧ Made l m n) (fun i _ => 16 - (intOf i).toNat)
  case atStart =>
    refine ⟨0, by omega, rfl, List.replicate 16 0, ⟨⟨?_, HS.out⟩, ⟨?_, small_zeros 8⟩, ⟨?_, small_zeros 16⟩, rfl, ?_⟩, fun t ht => by omega, fun t _ => ?_⟩
    · exact (Below.heap_alloc _ _ _ (by simp; omega)).trans ((Below.heap_alloc _ _ _ (by simp)).trans (heap_alloc_new w _))
    · refine (Below.heap_alloc _ _ _ (by simp)).trans ?_
      have := heap_alloc_new (w.alloc (.cells (Ws h8) 140)) (.cells (Ws (List.replicate 8 0)) 140)
      rwa [World.size_alloc] at this
    · have := heap_alloc_new ((w.alloc (.cells (Ws h8) 140)).alloc (.cells (Ws (List.replicate 8 0)) 140)) (.cells (Ws (List.replicate 16 0)) 162)
      rwa [World.size_alloc, World.size_alloc] at this
    · exact (((Below.refl _ w).alloc (Nat.le_refl _) _).alloc (by simp) _).alloc (by simp; omega) _
    · exact gt_zeros 16 t
  case round =>
    obtain ⟨n, hn, rfl, m, hF, hM⟩ := hrel
    by_cases hlt : n < 16
    · have HF := Lib.hid hF
      have HM := Lib.hid hM
      have hlt' : (n : Int) < 16 := by omega
      clear hF hM
      go_wp2
      go_loopw [11] (fun k wr' => ∃ j : Nat, j ≤ 8 ∧ k = .int .i64 (7 - (j : Int)) ∧ ∃ m, F6 w h8 m wr' ∧ Making l m n j) (fun k _ => ((intOf k) + 1).toNat)
      case atStart => exact ⟨0, by omega, by simp, m, HF.out, HM.out.1, HM.out.2 n (Nat.le_refl _), fun t ht => HM.out.2 t (by omega)⟩
      case round =>
        obtain ⟨j, hj, rfl, m2, hF, hM⟩ := hrel
        by_cases hjl : j < 8
        · have R := HR.out.below hF.old HR.out.lt
          have hsm := R.small
          have hx : gt m2 n < 72057594037927936 := by
            rw [hM.2.1]
            have h1 := hiW_lt hsm (8 * n) j
            have h2 : 256 ^ j ≤ 256 ^ 7 := Nat.pow_le_pow_right (by decide) (by omega)
            omega
          obtain ⟨N, hN⟩ : ∃ N, N = 8 * n + (7 - j) := ⟨_, rfl⟩
          have hby := hsm N
          have hlen := HL.out
          have W1 : IntKind.i64.wrap (8 * (n : Int)) = 8 * (n : Int) := IntWalk.i64_in _ (by omega)
          have W2 : IntKind.i64.wrap (8 * (n : Int) + (7 - (j : Int))) = (N : Int) := by rw [IntWalk.i64_in _ (by omega)]; omega
          have hN128 : (N : Int) < 128 := by omega
          have c1 := hF.mb.cell (i := n) (by rw [hF.ml]; exact hlt)
          have f1 := hF.mb.frozen n
          have c2 := R.cell N (by omega)
          have o1 := or_byteK (gt m2 n) (gt l N) hx hby
          obtain ⟨X, hX⟩ : ∃ X, X = gt m2 n * 256 + gt l N := ⟨_, rfl⟩
          rw [← hX] at o1
          have hXl : X < 18446744073709551616 := by omega
          have hMk : Making l (m2.set n X) n (j + 1) := by
            refine ⟨fun t ht => ?_, ?_, fun t ht => ?_⟩
            · rw [gt_set_ne (by omega)]; exact hM.1 t ht
            · rw [gt_set_same (by rw [hF.ml]; exact hlt), hX, hM.2.1, hN]; rfl
            · rw [gt_set_ne (by omega)]; exact hM.2.2 t ht
          have HF2 := Lib.hid (hF.set n hXl)
          have HMk := Lib.hid hMk
          have W3 : IntKind.u64.wrap ((gt l N : Nat) : Int) = ((gt l N : Nat) : Int) := by rw [IntKind.wrap_u64]; omega
          clear hM hF R hsm hx hN hby hlen hX hXl hMk
          go_wp2
          go_still_tail 15, (by kernel_rfl)
          go_wp2
          exact ⟨⟨j + 1, by omega, by go_num, _, HF2.out, HMk.out⟩, by simp [intOf]; omega⟩
        · have hj8 : j = 8 := by omega
          subst hj8
          have HF2 := Lib.hid hF
          have HM2 := Lib.hid hM
          clear hF hM
          go_wp2
          refine ⟨⟨n + 1, by omega, by go_num, _, HF2.out, fun t ht => ?_, fun t ht => HM2.out.2.2 t (by omega)⟩, by simp [intOf]; omega⟩
          by_cases e : t = n
          · subst e; rw [HM2.out.2.1, hiW_all]
          · exact HM2.out.1 t (by omega)
    · have hn16 : n = 16 := by omega
      subst hn16
      have hm : m = wordsL l := by
        refine ext_gt (by simp [wordsL, hF.ml]) fun i hi => ?_
        rw [hF.ml] at hi
        rw [hM.1 i hi, wordsL, gt_map_range hi]
      rw [hm] at hF
      have HF := Lib.hid hF
      clear hF hM hm
      go_wp2_with (first | (go_at_call 79; refine (ref_begin _).mono ?_; rintro e wB ⟨rfl, hbB⟩; have HB := Lib.hid hbB; clear hbB) | fail)
      obtain ⟨wC, hwC⟩ : ∃ wC, wC = wB.alloc (.cells (Ws beginL) 140) := ⟨_, rfl⟩
      have hlit : Ws beginL = #[.int .u64 7640891576956012808, .int .u64 13503953896175478587, .int .u64 4354685564936845355, .int .u64 11912009170470909681, .int .u64 5840696475078001361, .int .u64 11170449401992604703, .int .u64 2270897969802886507, .int .u64 6620516959819538809] := rfl
      rw [← hlit, ← hwC]
      have hF7 : F7 w wr.heap.size wB.heap.size h8 (wordsL l) (List.replicate 16 0) wC := by
        have f := HF.out
        have hB := HB.out
        have hsz := hB.size
        rw [World.size_alloc] at hsz
        have hk : ∀ k, k < wr.heap.size → wC.heap[k]? = wr.heap[k]? := fun k hk => by
          rw [hwC]
          exact (Below.heap_alloc _ _ _ (by omega)).trans ((hB.block k (by simp; omega)).trans (Below.heap_alloc _ _ _ hk))
        have h1 := f.hb.lt
        have h2 := f.zb.lt
        have h3 := f.mb.lt
        refine ⟨f.hb.keep (hk _ h1), f.zb.keep (hk _ h2), f.mb.keep (hk _ h3), ⟨?_, ?_⟩, ⟨?_, ?_⟩, rfl, h3, by omega, ?_⟩
        · rw [hwC]
          exact (Below.heap_alloc _ _ _ (by omega)).trans ((hB.block _ (by simp)).trans (heap_alloc_new wr _))
        · exact small_zeros 16
        · rw [hwC]; exact heap_alloc_new wB _
        · intro i
          by_cases hi : i < 8
          · have : ∀ i, i < 8 → gt beginL i < 18446744073709551616 := by decide
            exact this i hi
          · rw [gt_ge (by simp [beginL]; omega)]; decide
        · rw [hwC]
          have hb1 : Below w.heap.size w (wr.alloc (.cells (Ws (List.replicate 16 0)) 162)) := f.old.alloc f.old.size _
          exact (hb1.trans (hB.mono (by simp; have := f.old.size; omega))).alloc (by have := f.old.size; omega) _
      have HF7 := Lib.hid hF7
      have hvb := hF7.n1
      have hgb := hF7.n2
      clear hF7 hlit hwC HF HB
      obtain ⟨vb, hvbe⟩ : ∃ vb, vb = wr.heap.size := ⟨_, rfl⟩
      obtain ⟨gb, hgbe⟩ : ∃ gb, gb = wB.heap.size := ⟨_, rfl⟩
      rw [← hvbe, ← hgbe] at HF7 hgb ⊢
      rw [← hvbe] at hvb
      clear hvbe hgbe
      go_loopw [14] (fun i wr => ∃ n : Nat, n ≤ 8 ∧ i = .int .i64 n ∧ ∃ v, F7 w vb gb h8 (wordsL l) v wr ∧ Laid h8 v n) (fun i _ => 8 - (intOf i).toNat)
      case atStart => exact ⟨0, by omega, rfl, _, HF7.out, fun t ht => by omega⟩
      case round =>
        obtain ⟨n, hn, rfl, v, hF, hM⟩ := hrel
        by_cases hlt : n < 8
        · have hlt' : (n : Int) < 8 := by omega
          have hlt2 : (n : Int) < 16 := by omega
          obtain ⟨n8, hn8⟩ : ∃ n8, n8 = n + 8 := ⟨_, rfl⟩
          have W1 : IntKind.i64.wrap ((n : Int) + 8) = (n8 : Int) := by rw [IntWalk.i64_in _ (by omega)]; omega
          have hlt3 : (n8 : Int) < 16 := by omega
          have c1 := hF.hb.cell (i := n) (by rw [hh]; exact hlt)
          have c2 := hF.gbx.cell (i := n) (by simp [beginL]; exact hlt)
          have c3 := hF.vbx.cell (i := n) (by rw [hF.vl]; omega)
          have c4 := hF.vbx.cell (i := n8) (by rw [hF.vl]; omega)
          have f1 := hF.vbx.frozen n
          have f2 := hF.vbx.frozen n8
          have hne : (n8 = n) = False := by simp; omega
          have hne2 : (n = n8) = False := by simp; omega
          have HN := Lib.hid ((hF.set n (hF.hb.small n)).set n8 (hF.gbx.small n)).drew
          have HL8 : Laid h8 ((v.set n (gt h8 n)).set n8 (gt beginL n)) (n + 1) := by
            have hvl := hF.vl
            intro t ht
            by_cases e : t = n
            · subst e
              subst hn8
              exact ⟨by rw [gt_set_ne (by omega), gt_set_same (by omega)], gt_set_same (by simp; omega)⟩
            · have := hM t (by omega)
              rw [gt_set_ne (by omega), gt_set_ne (by omega), gt_set_ne (by omega), gt_set_ne (by omega)]
              exact this
          have HL9 := Lib.hid HL8
          clear hF hM HL8 hn8
          go_wp2
          go_region
          go_wp2
          exact ⟨⟨n + 1, by omega, by go_num, _, HN.out, HL9.out⟩, by simp [intOf]; omega⟩
        · have hn8 : n = 8 := by omega
          subst hn8
          rw [show ((8 : Nat) : Int) = 8 from rfl]
          have hv : v = h8 ++ beginL := by
            refine ext_gt (by rw [hF.vl]; simp [hh, beginL]) fun i hi => ?_
            rw [hF.vl] at hi
            by_cases h8 : i < 8
            · rw [gt_append_l (by omega)]; exact (hM i h8).1
            · rw [gt_append_r (by omega), hh]
              have := (hM (i - 8) (by omega)).2
              rwa [show i - 8 + 8 = i by omega] at this
          rw [hv] at hF
          have c12 := hF.vbx.cell (i := 12) (by rw [hF.vl]; omega)
          have f12 := hF.vbx.frozen 12
          have s12 := hF.vbx.small 12
          obtain ⟨g, hg⟩ : ∃ g, g = gt (h8 ++ beginL) 12 := ⟨_, rfl⟩
          rw [← hg] at c12 s12
          have W1 : IntKind.u64.wrap (count : Int) = (count : Int) := by rw [IntKind.wrap_u64]; omega
          have W2 : bits .xor .u64 (g : Int) (count : Int) = ((g ^^^ count : Nat) : Int) := bits_xor_u64_nat _ _ s12 (by omega)
          have hF2 := hF.set 12 (x := g ^^^ count) (Nat.xor_lt_two_pow (n := 64) s12 (by omega))
          have HF := Lib.hid hF2
          have HG := Lib.hid hg
          have c14 := hF2.vbx.cell (i := 14) (by rw [hF2.vl]; omega)
          have f14 := hF2.vbx.frozen 14
          have s14 := hF2.vbx.small 14
          clear hF hF2 hM hv hg s12
          obtain ⟨v1, hv1⟩ : ∃ v1, v1 = (h8 ++ beginL).set 12 (g ^^^ count) := ⟨_, rfl⟩
          rw [← hv1] at HF c14 s14
          have N1 := not64 (gt v1 14) s14
          have hV : startL h8 count last = (if last then v1.set 14 (18446744073709551615 - gt v1 14) else v1) := by rw [hv1, HG.out]; rfl
          have HV := Lib.hid hV
          have HV1 := Lib.hid hv1
          have s14' : 18446744073709551615 - gt v1 14 < 18446744073709551616 := by omega
          have HS14 := Lib.hid s14'
          clear hV hv1 s14 s14'
          obtain ⟨V, hVV⟩ : ∃ V, V = startL h8 count last := ⟨_, rfl⟩
          have HVV := Lib.hid hVV
          go_upto_if 65 with fail
          go_cut [12] (fun p wx => p = .pointer (some ⟨vb, 0, none⟩) ∧ F7 w vb gb h8 (wordsL l) V wx)
          case first =>
            cases last
            all_goals go_wp2_with fail
            all_goals go_meet
            all_goals first
              | (have HS1 := HF.out
                 rw [show v1 = V by rw [hVV]; exact HV.out.symm] at HS1
                 exact ⟨rfl, HS1⟩)
              | (have HS1 := HF.out.set 14 HS14.out
                 rw [show v1.set 14 (18446744073709551615 - gt v1 14) = V by rw [hVV]; exact HV.out.symm] at HS1
                 exact ⟨rfl, HS1⟩)
          case rest =>
            have HS1 := Lib.hid hcut.2
            have hp12 := hcut.1
            subst hp12
            clear hcut
            go_wp2_with fail
            go_loopw [15] (fun i wr => ∃ n : Nat, n ≤ 12 ∧ i = .int .i64 n ∧ F7 w vb gb h8 (wordsL l) (roundsL (wordsL l) n V) wr) (fun i _ => 12 - (intOf i).toNat)
            case atStart => exact ⟨0, by omega, rfl, HS1.out⟩
            case round =>
             obtain ⟨n, hn, rfl, hF⟩ := hrel
             by_cases hlt : n < 12
             · have hlt' : (n : Int) < 12 := by omega
               obtain ⟨os, hos⟩ : ∃ os, os = orderS (n % 10) := ⟨_, rfl⟩
               obtain ⟨v, hv⟩ : ∃ v, v = roundsL (wordsL l) n V := ⟨_, rfl⟩
               have hrnd : roundsL (wordsL l) (n + 1) V = diaL (wordsL l) (orderL (n % 10)) 4 (colL (wordsL l) (orderL (n % 10)) 4 v) := by rw [hv]; rfl
               rw [← hv] at hF
               have HOS := Lib.hid hos
               have hsz : os.size = 16 := by rw [hos]; exact order_size _
               have HVC := Lib.hid hF
               have HRN := Lib.hid hrnd
               clear hF hv hrnd hos
               go_wp2_with (first | (go_at_call 97; refine (ref_order n _ hlt).mono ?_; rintro e w' ⟨rfl, rfl⟩; rw [← HOS.out]) | fail)
               go_loopw [17] (fun k wr' => ∃ j : Nat, j ≤ 4 ∧ k = .int .i64 j ∧ F7 w vb gb h8 (wordsL l) (colL (wordsL l) (orderL (n % 10)) j v) wr') (fun k _ => 4 - (intOf k).toNat)
               case atStart => exact ⟨0, by omega, rfl, HVC.out⟩
               case round =>
                 obtain ⟨j, hj, rfl, hF⟩ := hrel
                 by_cases hjl : j < 4
                 · have hj4 : j = 0 ∨ j = 1 ∨ j = 2 ∨ j = 3 := by omega
                   rcases hj4 with rfl | rfl | rfl | rfl
                   · obtain ⟨ha0, ca, ha1, ha2, ha3, ha4⟩ := order_get (n % 10) 0 (by omega) (by omega) HOS.out
                     obtain ⟨hb0, cb, hb1, hb2, hb3, hb4⟩ := order_get (n % 10) 1 (by omega) (by omega) HOS.out
                     have w1 : IntKind.i64.wrap 0 = 0 := by decide
                     have w2 : IntKind.i64.wrap 0 = 0 := by decide
                     have w3 : IntKind.i64.wrap 1 = 1 := by decide
                     have la := orderL_lt (n % 10) 0
                     have lb := orderL_lt (n % 10) 1
                     have hstep : colL (wordsL l) (orderL (n % 10)) 1 v = mixL (colL (wordsL l) (orderL (n % 10)) 0 v) 0 4 8 12 (gt (wordsL l) (gt (orderL (n % 10)) 0)) (gt (wordsL l) (gt (orderL (n % 10)) 1)) := rfl
                     obtain ⟨ia, hia⟩ : ∃ ia, ia = gt (orderL (n % 10)) 0 := ⟨_, rfl⟩
                     obtain ⟨ib, hib⟩ : ∃ ib, ib = gt (orderL (n % 10)) 1 := ⟨_, rfl⟩
                     rw [← hia] at ha4 la hstep
                     rw [← hib] at hb4 lb hstep
                     obtain ⟨u, hu⟩ : ∃ u, u = colL (wordsL l) (orderL (n % 10)) 0 v := ⟨_, rfl⟩
                     rw [← hu] at hF hstep
                     have cma := hF.mb.cell (i := ia) (by simp [wordsL]; exact la)
                     have cmb := hF.mb.cell (i := ib) (by simp [wordsL]; exact lb)
                     have la' : (ia : Int) < 16 := by omega
                     have lb' : (ib : Int) < 16 := by omega
                     have HF := Lib.hid hF
                     have HST := Lib.hid hstep
                     have HA2 := Lib.hid ha2
                     have HA3 := Lib.hid ha3
                     have HA4 := Lib.hid ha4
                     have HB2 := Lib.hid hb2
                     have HB3 := Lib.hid hb3
                     have HB4 := Lib.hid hb4
                     clear hF hstep hu hia hib la lb ha2 ha3 ha4 hb2 hb3 hb4
                     go_wp2
                     refine wp_region_still_tail 22 (by kernel_rfl) (by kernel_rfl) ?_
                     simp only [List.take_succ_cons, List.take_zero, List.drop_succ_cons, List.drop_zero]
                     repeat still_step
                     still_call (ref_digit' _ _ _ HA2.out HA3.out HA4.out)
                     repeat still_step
                     still_call (ref_digit' _ _ _ HB2.out HB3.out HB4.out)
                     repeat still_step
                     refine wpStill_nil ?_
                     change wpList _ _ _ _ _ wr.drew
                     clear cma cmb ha1 hb1 ha0 hb0
                     go_wp2_with (first | (go_at_call 98; refine (ref_mix' vb 0 4 8 12 (gt (wordsL l) ia) (gt (wordsL l) ib) u wr wr.drew 162 HF.out.ms (by omega) (by omega) (by omega) (by omega) rfl rfl rfl rfl).mono ?_; rintro e wM ⟨rfl, hM⟩) | fail)
                     refine ⟨⟨1, by omega, by go_num, ?_⟩, by simp [intOf]⟩
                     rw [HST.out]
                     exact HF.out.upd hM.upd hM.box hM.len
                   · obtain ⟨ha0, ca, ha1, ha2, ha3, ha4⟩ := order_get (n % 10) 2 (by omega) (by omega) HOS.out
                     obtain ⟨hb0, cb, hb1, hb2, hb3, hb4⟩ := order_get (n % 10) 3 (by omega) (by omega) HOS.out
                     have w1 : IntKind.i64.wrap 2 = 2 := by decide
                     have w2 : IntKind.i64.wrap 2 = 2 := by decide
                     have w3 : IntKind.i64.wrap 3 = 3 := by decide
                     have la := orderL_lt (n % 10) 2
                     have lb := orderL_lt (n % 10) 3
                     have hstep : colL (wordsL l) (orderL (n % 10)) 2 v = mixL (colL (wordsL l) (orderL (n % 10)) 1 v) 1 5 9 13 (gt (wordsL l) (gt (orderL (n % 10)) 2)) (gt (wordsL l) (gt (orderL (n % 10)) 3)) := rfl
                     obtain ⟨ia, hia⟩ : ∃ ia, ia = gt (orderL (n % 10)) 2 := ⟨_, rfl⟩
                     obtain ⟨ib, hib⟩ : ∃ ib, ib = gt (orderL (n % 10)) 3 := ⟨_, rfl⟩
                     rw [← hia] at ha4 la hstep
                     rw [← hib] at hb4 lb hstep
                     obtain ⟨u, hu⟩ : ∃ u, u = colL (wordsL l) (orderL (n % 10)) 1 v := ⟨_, rfl⟩
                     rw [← hu] at hF hstep
                     have cma := hF.mb.cell (i := ia) (by simp [wordsL]; exact la)
                     have cmb := hF.mb.cell (i := ib) (by simp [wordsL]; exact lb)
                     have la' : (ia : Int) < 16 := by omega
                     have lb' : (ib : Int) < 16 := by omega
                     have HF := Lib.hid hF
                     have HST := Lib.hid hstep
                     have HA2 := Lib.hid ha2
                     have HA3 := Lib.hid ha3
                     have HA4 := Lib.hid ha4
                     have HB2 := Lib.hid hb2
                     have HB3 := Lib.hid hb3
                     have HB4 := Lib.hid hb4
                     clear hF hstep hu hia hib la lb ha2 ha3 ha4 hb2 hb3 hb4
                     go_wp2
                     refine wp_region_still_tail 22 (by kernel_rfl) (by kernel_rfl) ?_
                     simp only [List.take_succ_cons, List.take_zero, List.drop_succ_cons, List.drop_zero]
                     repeat still_step
                     still_call (ref_digit' _ _ _ HA2.out HA3.out HA4.out)
                     repeat still_step
                     still_call (ref_digit' _ _ _ HB2.out HB3.out HB4.out)
                     repeat still_step
                     refine wpStill_nil ?_
                     change wpList _ _ _ _ _ wr.drew
                     clear cma cmb ha1 hb1 ha0 hb0
                     go_wp2_with (first | (go_at_call 98; refine (ref_mix' vb 1 5 9 13 (gt (wordsL l) ia) (gt (wordsL l) ib) u wr wr.drew 162 HF.out.ms (by omega) (by omega) (by omega) (by omega) rfl rfl rfl rfl).mono ?_; rintro e wM ⟨rfl, hM⟩) | fail)
                     refine ⟨⟨2, by omega, by go_num, ?_⟩, by simp [intOf]⟩
                     rw [HST.out]
                     exact HF.out.upd hM.upd hM.box hM.len
                   · obtain ⟨ha0, ca, ha1, ha2, ha3, ha4⟩ := order_get (n % 10) 4 (by omega) (by omega) HOS.out
                     obtain ⟨hb0, cb, hb1, hb2, hb3, hb4⟩ := order_get (n % 10) 5 (by omega) (by omega) HOS.out
                     have w1 : IntKind.i64.wrap 4 = 4 := by decide
                     have w2 : IntKind.i64.wrap 4 = 4 := by decide
                     have w3 : IntKind.i64.wrap 5 = 5 := by decide
                     have la := orderL_lt (n % 10) 4
                     have lb := orderL_lt (n % 10) 5
                     have hstep : colL (wordsL l) (orderL (n % 10)) 3 v = mixL (colL (wordsL l) (orderL (n % 10)) 2 v) 2 6 10 14 (gt (wordsL l) (gt (orderL (n % 10)) 4)) (gt (wordsL l) (gt (orderL (n % 10)) 5)) := rfl
                     obtain ⟨ia, hia⟩ : ∃ ia, ia = gt (orderL (n % 10)) 4 := ⟨_, rfl⟩
                     obtain ⟨ib, hib⟩ : ∃ ib, ib = gt (orderL (n % 10)) 5 := ⟨_, rfl⟩
                     rw [← hia] at ha4 la hstep
                     rw [← hib] at hb4 lb hstep
                     obtain ⟨u, hu⟩ : ∃ u, u = colL (wordsL l) (orderL (n % 10)) 2 v := ⟨_, rfl⟩
                     rw [← hu] at hF hstep
                     have cma := hF.mb.cell (i := ia) (by simp [wordsL]; exact la)
                     have cmb := hF.mb.cell (i := ib) (by simp [wordsL]; exact lb)
                     have la' : (ia : Int) < 16 := by omega
                     have lb' : (ib : Int) < 16 := by omega
                     have HF := Lib.hid hF
                     have HST := Lib.hid hstep
                     have HA2 := Lib.hid ha2
                     have HA3 := Lib.hid ha3
                     have HA4 := Lib.hid ha4
                     have HB2 := Lib.hid hb2
                     have HB3 := Lib.hid hb3
                     have HB4 := Lib.hid hb4
                     clear hF hstep hu hia hib la lb ha2 ha3 ha4 hb2 hb3 hb4
                     go_wp2
                     refine wp_region_still_tail 22 (by kernel_rfl) (by kernel_rfl) ?_
                     simp only [List.take_succ_cons, List.take_zero, List.drop_succ_cons, List.drop_zero]
                     repeat still_step
                     still_call (ref_digit' _ _ _ HA2.out HA3.out HA4.out)
                     repeat still_step
                     still_call (ref_digit' _ _ _ HB2.out HB3.out HB4.out)
                     repeat still_step
                     refine wpStill_nil ?_
                     change wpList _ _ _ _ _ wr.drew
                     clear cma cmb ha1 hb1 ha0 hb0
                     go_wp2_with (first | (go_at_call 98; refine (ref_mix' vb 2 6 10 14 (gt (wordsL l) ia) (gt (wordsL l) ib) u wr wr.drew 162 HF.out.ms (by omega) (by omega) (by omega) (by omega) rfl rfl rfl rfl).mono ?_; rintro e wM ⟨rfl, hM⟩) | fail)
                     refine ⟨⟨3, by omega, by go_num, ?_⟩, by simp [intOf]⟩
                     rw [HST.out]
                     exact HF.out.upd hM.upd hM.box hM.len
                   · obtain ⟨ha0, ca, ha1, ha2, ha3, ha4⟩ := order_get (n % 10) 6 (by omega) (by omega) HOS.out
                     obtain ⟨hb0, cb, hb1, hb2, hb3, hb4⟩ := order_get (n % 10) 7 (by omega) (by omega) HOS.out
                     have w1 : IntKind.i64.wrap 6 = 6 := by decide
                     have w2 : IntKind.i64.wrap 6 = 6 := by decide
                     have w3 : IntKind.i64.wrap 7 = 7 := by decide
                     have la := orderL_lt (n % 10) 6
                     have lb := orderL_lt (n % 10) 7
                     have hstep : colL (wordsL l) (orderL (n % 10)) 4 v = mixL (colL (wordsL l) (orderL (n % 10)) 3 v) 3 7 11 15 (gt (wordsL l) (gt (orderL (n % 10)) 6)) (gt (wordsL l) (gt (orderL (n % 10)) 7)) := rfl
                     obtain ⟨ia, hia⟩ : ∃ ia, ia = gt (orderL (n % 10)) 6 := ⟨_, rfl⟩
                     obtain ⟨ib, hib⟩ : ∃ ib, ib = gt (orderL (n % 10)) 7 := ⟨_, rfl⟩
                     rw [← hia] at ha4 la hstep
                     rw [← hib] at hb4 lb hstep
                     obtain ⟨u, hu⟩ : ∃ u, u = colL (wordsL l) (orderL (n % 10)) 3 v := ⟨_, rfl⟩
                     rw [← hu] at hF hstep
                     have cma := hF.mb.cell (i := ia) (by simp [wordsL]; exact la)
                     have cmb := hF.mb.cell (i := ib) (by simp [wordsL]; exact lb)
                     have la' : (ia : Int) < 16 := by omega
                     have lb' : (ib : Int) < 16 := by omega
                     have HF := Lib.hid hF
                     have HST := Lib.hid hstep
                     have HA2 := Lib.hid ha2
                     have HA3 := Lib.hid ha3
                     have HA4 := Lib.hid ha4
                     have HB2 := Lib.hid hb2
                     have HB3 := Lib.hid hb3
                     have HB4 := Lib.hid hb4
                     clear hF hstep hu hia hib la lb ha2 ha3 ha4 hb2 hb3 hb4
                     go_wp2
                     refine wp_region_still_tail 22 (by kernel_rfl) (by kernel_rfl) ?_
                     simp only [List.take_succ_cons, List.take_zero, List.drop_succ_cons, List.drop_zero]
                     repeat still_step
                     still_call (ref_digit' _ _ _ HA2.out HA3.out HA4.out)
                     repeat still_step
                     still_call (ref_digit' _ _ _ HB2.out HB3.out HB4.out)
                     repeat still_step
                     refine wpStill_nil ?_
                     change wpList _ _ _ _ _ wr.drew
                     clear cma cmb ha1 hb1 ha0 hb0
                     go_wp2_with (first | (go_at_call 98; refine (ref_mix' vb 3 7 11 15 (gt (wordsL l) ia) (gt (wordsL l) ib) u wr wr.drew 162 HF.out.ms (by omega) (by omega) (by omega) (by omega) rfl rfl rfl rfl).mono ?_; rintro e wM ⟨rfl, hM⟩) | fail)
                     refine ⟨⟨4, by omega, by go_num, ?_⟩, by simp [intOf]⟩
                     rw [HST.out]
                     exact HF.out.upd hM.upd hM.box hM.len
                 · have hj4 : j = 4 := by omega
                   subst hj4
                   rw [show ((4 : Nat) : Int) = 4 from rfl]
                   obtain ⟨c4, hc4⟩ : ∃ c4, c4 = colL (wordsL l) (orderL (n % 10)) 4 v := ⟨_, rfl⟩
                   rw [← hc4] at hF
                   have HRN2 := Lib.hid hc4
                   have HVD := Lib.hid hF
                   clear hF hc4
                   go_wp2
                   go_loopw [18] (fun k wr' => ∃ j : Nat, j ≤ 4 ∧ k = .int .i64 j ∧ F7 w vb gb h8 (wordsL l) (diaL (wordsL l) (orderL (n % 10)) j c4) wr') (fun k _ => 4 - (intOf k).toNat)
                   case atStart => exact ⟨0, by omega, rfl, HVD.out⟩
                   case round =>
                     obtain ⟨j, hj, rfl, hF⟩ := hrel
                     by_cases hjl : j < 4
                     · have hj4 : j = 0 ∨ j = 1 ∨ j = 2 ∨ j = 3 := by omega
                       rcases hj4 with rfl | rfl | rfl | rfl
                       · obtain ⟨ha0, ca, ha1, ha2, ha3, ha4⟩ := order_get (n % 10) 8 (by omega) (by omega) HOS.out
                         obtain ⟨hb0, cb, hb1, hb2, hb3, hb4⟩ := order_get (n % 10) 9 (by omega) (by omega) HOS.out
                         have w1 : IntKind.i64.wrap 0 = 0 := by decide
                         have w2 : IntKind.i64.wrap 8 = 8 := by decide
                         have w3 : IntKind.i64.wrap 9 = 9 := by decide
                         have la := orderL_lt (n % 10) 8
                         have lb := orderL_lt (n % 10) 9
                         have hstep : diaL (wordsL l) (orderL (n % 10)) 1 c4 = mixL (diaL (wordsL l) (orderL (n % 10)) 0 c4) 0 5 10 15 (gt (wordsL l) (gt (orderL (n % 10)) 8)) (gt (wordsL l) (gt (orderL (n % 10)) 9)) := rfl
                         obtain ⟨ia, hia⟩ : ∃ ia, ia = gt (orderL (n % 10)) 8 := ⟨_, rfl⟩
                         obtain ⟨ib, hib⟩ : ∃ ib, ib = gt (orderL (n % 10)) 9 := ⟨_, rfl⟩
                         rw [← hia] at ha4 la hstep
                         rw [← hib] at hb4 lb hstep
                         obtain ⟨u, hu⟩ : ∃ u, u = diaL (wordsL l) (orderL (n % 10)) 0 c4 := ⟨_, rfl⟩
                         rw [← hu] at hF hstep
                         have cma := hF.mb.cell (i := ia) (by simp [wordsL]; exact la)
                         have cmb := hF.mb.cell (i := ib) (by simp [wordsL]; exact lb)
                         have la' : (ia : Int) < 16 := by omega
                         have lb' : (ib : Int) < 16 := by omega
                         have HF := Lib.hid hF
                         have HST := Lib.hid hstep
                         have HA2 := Lib.hid ha2
                         have HA3 := Lib.hid ha3
                         have HA4 := Lib.hid ha4
                         have HB2 := Lib.hid hb2
                         have HB3 := Lib.hid hb3
                         have HB4 := Lib.hid hb4
                         clear hF hstep hu hia hib la lb ha2 ha3 ha4 hb2 hb3 hb4
                         go_wp2
                         refine wp_region_still_tail 29 (by kernel_rfl) (by kernel_rfl) ?_
                         simp only [List.take_succ_cons, List.take_zero, List.drop_succ_cons, List.drop_zero]
                         repeat still_step
                         still_call (ref_digit' _ _ _ HA2.out HA3.out HA4.out)
                         repeat still_step
                         still_call (ref_digit' _ _ _ HB2.out HB3.out HB4.out)
                         repeat still_step
                         refine wpStill_nil ?_
                         change wpList _ _ _ _ _ wr.drew
                         clear cma cmb ha1 hb1 ha0 hb0
                         go_wp2_with (first | (go_at_call 98; refine (ref_mix' vb 0 5 10 15 (gt (wordsL l) ia) (gt (wordsL l) ib) u wr wr.drew 162 HF.out.ms (by omega) (by omega) (by omega) (by omega) rfl rfl rfl rfl).mono ?_; rintro e wM ⟨rfl, hM⟩) | fail)
                         refine ⟨⟨1, by omega, by go_num, ?_⟩, by simp [intOf]⟩
                         rw [HST.out]
                         exact HF.out.upd hM.upd hM.box hM.len
                       · obtain ⟨ha0, ca, ha1, ha2, ha3, ha4⟩ := order_get (n % 10) 10 (by omega) (by omega) HOS.out
                         obtain ⟨hb0, cb, hb1, hb2, hb3, hb4⟩ := order_get (n % 10) 11 (by omega) (by omega) HOS.out
                         have w1 : IntKind.i64.wrap 2 = 2 := by decide
                         have w2 : IntKind.i64.wrap 10 = 10 := by decide
                         have w3 : IntKind.i64.wrap 11 = 11 := by decide
                         have la := orderL_lt (n % 10) 10
                         have lb := orderL_lt (n % 10) 11
                         have hstep : diaL (wordsL l) (orderL (n % 10)) 2 c4 = mixL (diaL (wordsL l) (orderL (n % 10)) 1 c4) 1 6 11 12 (gt (wordsL l) (gt (orderL (n % 10)) 10)) (gt (wordsL l) (gt (orderL (n % 10)) 11)) := rfl
                         obtain ⟨ia, hia⟩ : ∃ ia, ia = gt (orderL (n % 10)) 10 := ⟨_, rfl⟩
                         obtain ⟨ib, hib⟩ : ∃ ib, ib = gt (orderL (n % 10)) 11 := ⟨_, rfl⟩
                         rw [← hia] at ha4 la hstep
                         rw [← hib] at hb4 lb hstep
                         obtain ⟨u, hu⟩ : ∃ u, u = diaL (wordsL l) (orderL (n % 10)) 1 c4 := ⟨_, rfl⟩
                         rw [← hu] at hF hstep
                         have cma := hF.mb.cell (i := ia) (by simp [wordsL]; exact la)
                         have cmb := hF.mb.cell (i := ib) (by simp [wordsL]; exact lb)
                         have la' : (ia : Int) < 16 := by omega
                         have lb' : (ib : Int) < 16 := by omega
                         have HF := Lib.hid hF
                         have HST := Lib.hid hstep
                         have HA2 := Lib.hid ha2
                         have HA3 := Lib.hid ha3
                         have HA4 := Lib.hid ha4
                         have HB2 := Lib.hid hb2
                         have HB3 := Lib.hid hb3
                         have HB4 := Lib.hid hb4
                         clear hF hstep hu hia hib la lb ha2 ha3 ha4 hb2 hb3 hb4
                         go_wp2
                         refine wp_region_still_tail 29 (by kernel_rfl) (by kernel_rfl) ?_
                         simp only [List.take_succ_cons, List.take_zero, List.drop_succ_cons, List.drop_zero]
                         repeat still_step
                         still_call (ref_digit' _ _ _ HA2.out HA3.out HA4.out)
                         repeat still_step
                         still_call (ref_digit' _ _ _ HB2.out HB3.out HB4.out)
                         repeat still_step
                         refine wpStill_nil ?_
                         change wpList _ _ _ _ _ wr.drew
                         clear cma cmb ha1 hb1 ha0 hb0
                         go_wp2_with (first | (go_at_call 98; refine (ref_mix' vb 1 6 11 12 (gt (wordsL l) ia) (gt (wordsL l) ib) u wr wr.drew 162 HF.out.ms (by omega) (by omega) (by omega) (by omega) rfl rfl rfl rfl).mono ?_; rintro e wM ⟨rfl, hM⟩) | fail)
                         refine ⟨⟨2, by omega, by go_num, ?_⟩, by simp [intOf]⟩
                         rw [HST.out]
                         exact HF.out.upd hM.upd hM.box hM.len
                       · obtain ⟨ha0, ca, ha1, ha2, ha3, ha4⟩ := order_get (n % 10) 12 (by omega) (by omega) HOS.out
                         obtain ⟨hb0, cb, hb1, hb2, hb3, hb4⟩ := order_get (n % 10) 13 (by omega) (by omega) HOS.out
                         have w1 : IntKind.i64.wrap 4 = 4 := by decide
                         have w2 : IntKind.i64.wrap 12 = 12 := by decide
                         have w3 : IntKind.i64.wrap 13 = 13 := by decide
                         have la := orderL_lt (n % 10) 12
                         have lb := orderL_lt (n % 10) 13
                         have hstep : diaL (wordsL l) (orderL (n % 10)) 3 c4 = mixL (diaL (wordsL l) (orderL (n % 10)) 2 c4) 2 7 8 13 (gt (wordsL l) (gt (orderL (n % 10)) 12)) (gt (wordsL l) (gt (orderL (n % 10)) 13)) := rfl
                         obtain ⟨ia, hia⟩ : ∃ ia, ia = gt (orderL (n % 10)) 12 := ⟨_, rfl⟩
                         obtain ⟨ib, hib⟩ : ∃ ib, ib = gt (orderL (n % 10)) 13 := ⟨_, rfl⟩
                         rw [← hia] at ha4 la hstep
                         rw [← hib] at hb4 lb hstep
                         obtain ⟨u, hu⟩ : ∃ u, u = diaL (wordsL l) (orderL (n % 10)) 2 c4 := ⟨_, rfl⟩
                         rw [← hu] at hF hstep
                         have cma := hF.mb.cell (i := ia) (by simp [wordsL]; exact la)
                         have cmb := hF.mb.cell (i := ib) (by simp [wordsL]; exact lb)
                         have la' : (ia : Int) < 16 := by omega
                         have lb' : (ib : Int) < 16 := by omega
                         have HF := Lib.hid hF
                         have HST := Lib.hid hstep
                         have HA2 := Lib.hid ha2
                         have HA3 := Lib.hid ha3
                         have HA4 := Lib.hid ha4
                         have HB2 := Lib.hid hb2
                         have HB3 := Lib.hid hb3
                         have HB4 := Lib.hid hb4
                         clear hF hstep hu hia hib la lb ha2 ha3 ha4 hb2 hb3 hb4
                         go_wp2
                         refine wp_region_still_tail 29 (by kernel_rfl) (by kernel_rfl) ?_
                         simp only [List.take_succ_cons, List.take_zero, List.drop_succ_cons, List.drop_zero]
                         repeat still_step
                         still_call (ref_digit' _ _ _ HA2.out HA3.out HA4.out)
                         repeat still_step
                         still_call (ref_digit' _ _ _ HB2.out HB3.out HB4.out)
                         repeat still_step
                         refine wpStill_nil ?_
                         change wpList _ _ _ _ _ wr.drew
                         clear cma cmb ha1 hb1 ha0 hb0
                         go_wp2_with (first | (go_at_call 98; refine (ref_mix' vb 2 7 8 13 (gt (wordsL l) ia) (gt (wordsL l) ib) u wr wr.drew 162 HF.out.ms (by omega) (by omega) (by omega) (by omega) rfl rfl rfl rfl).mono ?_; rintro e wM ⟨rfl, hM⟩) | fail)
                         refine ⟨⟨3, by omega, by go_num, ?_⟩, by simp [intOf]⟩
                         rw [HST.out]
                         exact HF.out.upd hM.upd hM.box hM.len
                       · obtain ⟨ha0, ca, ha1, ha2, ha3, ha4⟩ := order_get (n % 10) 14 (by omega) (by omega) HOS.out
                         obtain ⟨hb0, cb, hb1, hb2, hb3, hb4⟩ := order_get (n % 10) 15 (by omega) (by omega) HOS.out
                         have w1 : IntKind.i64.wrap 6 = 6 := by decide
                         have w2 : IntKind.i64.wrap 14 = 14 := by decide
                         have w3 : IntKind.i64.wrap 15 = 15 := by decide
                         have la := orderL_lt (n % 10) 14
                         have lb := orderL_lt (n % 10) 15
                         have hstep : diaL (wordsL l) (orderL (n % 10)) 4 c4 = mixL (diaL (wordsL l) (orderL (n % 10)) 3 c4) 3 4 9 14 (gt (wordsL l) (gt (orderL (n % 10)) 14)) (gt (wordsL l) (gt (orderL (n % 10)) 15)) := rfl
                         obtain ⟨ia, hia⟩ : ∃ ia, ia = gt (orderL (n % 10)) 14 := ⟨_, rfl⟩
                         obtain ⟨ib, hib⟩ : ∃ ib, ib = gt (orderL (n % 10)) 15 := ⟨_, rfl⟩
                         rw [← hia] at ha4 la hstep
                         rw [← hib] at hb4 lb hstep
                         obtain ⟨u, hu⟩ : ∃ u, u = diaL (wordsL l) (orderL (n % 10)) 3 c4 := ⟨_, rfl⟩
                         rw [← hu] at hF hstep
                         have cma := hF.mb.cell (i := ia) (by simp [wordsL]; exact la)
                         have cmb := hF.mb.cell (i := ib) (by simp [wordsL]; exact lb)
                         have la' : (ia : Int) < 16 := by omega
                         have lb' : (ib : Int) < 16 := by omega
                         have HF := Lib.hid hF
                         have HST := Lib.hid hstep
                         have HA2 := Lib.hid ha2
                         have HA3 := Lib.hid ha3
                         have HA4 := Lib.hid ha4
                         have HB2 := Lib.hid hb2
                         have HB3 := Lib.hid hb3
                         have HB4 := Lib.hid hb4
                         clear hF hstep hu hia hib la lb ha2 ha3 ha4 hb2 hb3 hb4
                         go_wp2
                         refine wp_region_still_tail 29 (by kernel_rfl) (by kernel_rfl) ?_
                         simp only [List.take_succ_cons, List.take_zero, List.drop_succ_cons, List.drop_zero]
                         repeat still_step
                         still_call (ref_digit' _ _ _ HA2.out HA3.out HA4.out)
                         repeat still_step
                         still_call (ref_digit' _ _ _ HB2.out HB3.out HB4.out)
                         repeat still_step
                         refine wpStill_nil ?_
                         change wpList _ _ _ _ _ wr.drew
                         clear cma cmb ha1 hb1 ha0 hb0
                         go_wp2_with (first | (go_at_call 98; refine (ref_mix' vb 3 4 9 14 (gt (wordsL l) ia) (gt (wordsL l) ib) u wr wr.drew 162 HF.out.ms (by omega) (by omega) (by omega) (by omega) rfl rfl rfl rfl).mono ?_; rintro e wM ⟨rfl, hM⟩) | fail)
                         refine ⟨⟨4, by omega, by go_num, ?_⟩, by simp [intOf]⟩
                         rw [HST.out]
                         exact HF.out.upd hM.upd hM.box hM.len
                     · have hj4 : j = 4 := by omega
                       subst hj4
                       rw [show ((4 : Nat) : Int) = 4 from rfl]
                       have HF := Lib.hid hF
                       clear hF
                       go_wp2
                       refine ⟨⟨n + 1, by omega, by go_num, ?_⟩, by simp [intOf]; omega⟩
                       rw [HRN.out, ← HRN2.out]
                       exact HF.out
             · have hn12 : n = 12 := by omega
               subst hn12
               rw [show ((12 : Nat) : Int) = 12 from rfl]
               obtain ⟨v, hv⟩ : ∃ v, v = roundsL (wordsL l) 12 V := ⟨_, rfl⟩
               rw [← hv] at hF
               have hfold : blockL h8 (wordsL l) count last = foldL h8 v := by rw [hv, HVV.out]; rfl
               have HFO := Lib.hid hfold
               have HF := Lib.hid hF
               clear hF hv hfold
               go_wp2
               go_loopw [19] (fun i wr => ∃ n : Nat, n ≤ 8 ∧ i = .int .i64 n ∧ ∃ x, F7 w vb gb x (wordsL l) v wr ∧ x.length = 8 ∧ Folded h8 v x n) (fun i _ => 8 - (intOf i).toNat)
               case atStart => exact ⟨0, by omega, rfl, h8, HF.out, hh, fun t ht => by omega, fun t _ => rfl⟩
               case round =>
                obtain ⟨n, hn, rfl, x, hF, hxl, hM⟩ := hrel
                by_cases hlt : n < 8
                · have hlt' : (n : Int) < 8 := by omega
                  have hlt2 : (n : Int) < 16 := by omega
                  obtain ⟨n8, hn8⟩ : ∃ n8, n8 = n + 8 := ⟨_, rfl⟩
                  have W1 : IntKind.i64.wrap ((n : Int) + 8) = (n8 : Int) := by rw [IntWalk.i64_in _ (by omega)]; omega
                  have hlt3 : (n8 : Int) < 16 := by omega
                  have c1 := hF.hb.cell (i := n) (by rw [hxl]; exact hlt)
                  have f1 := hF.hb.frozen n
                  have c3 := hF.vbx.cell (i := n) (by rw [hF.vl]; omega)
                  have c4 := hF.vbx.cell (i := n8) (by rw [hF.vl]; omega)
                  have s1 := hF.hb.small n
                  have s2 := hF.vbx.small n
                  have s3 := hF.vbx.small n8
                  have s12 := Nat.xor_lt_two_pow (n := 64) s1 s2
                  have X1 := bits_xor_u64_nat _ _ s1 s2
                  have X2 := bits_xor_u64_nat _ _ s12 s3
                  have s123 := Nat.xor_lt_two_pow (n := 64) s12 s3
                  have HN := Lib.hid (hF.seth n hxl s123).drew
                  have hM2 : Folded h8 v (x.set n (gt x n ^^^ gt v n ^^^ gt v n8)) (n + 1) := by
                    refine ⟨fun t ht => ?_, fun t ht => ?_⟩
                    · by_cases e : t = n
                      · subst e; rw [gt_set_same (by omega), hM.2 t (Nat.le_refl _), hn8]
                      · rw [gt_set_ne (by omega)]; exact hM.1 t (by omega)
                    · rw [gt_set_ne (by omega)]; exact hM.2 t (by omega)
                  have HM2 := Lib.hid hM2
                  have HXL := Lib.hid hxl
                  clear hF hM hM2 hxl hn8 s1 s2 s3 s12 s123
                  go_wp2
                  go_still_tail 14, (by kernel_rfl)
                  go_wp2
                  exact ⟨⟨n + 1, by omega, by go_num, _, HN.out, by rw [List.length_set]; exact HXL.out, HM2.out⟩, by simp [intOf]; omega⟩
                · have hn8 : n = 8 := by omega
                  subst hn8
                  rw [show ((8 : Nat) : Int) = 8 from rfl]
                  have hx : x = foldL h8 v := by
                    refine ext_gt (by rw [hxl]; simp [foldL]) fun i hi => ?_
                    rw [hxl] at hi
                    rw [hM.1 i hi, foldL, gt_map_range hi]
                  rw [← HFO.out] at hx
                  have hW := Ws8 x hxl
                  rw [hx] at hW
                  have HW := Lib.hid hW
                  have c0 := hF.hb.cell (i := 0) (by omega)
                  have c1 := hF.hb.cell (i := 1) (by omega)
                  have c2 := hF.hb.cell (i := 2) (by omega)
                  have c3 := hF.hb.cell (i := 3) (by omega)
                  have c4 := hF.hb.cell (i := 4) (by omega)
                  have c5 := hF.hb.cell (i := 5) (by omega)
                  have c6 := hF.hb.cell (i := 6) (by omega)
                  have c7 := hF.hb.cell (i := 7) (by omega)
                  have z0 := hF.zb.cell (i := 0) (by simp)
                  have f0 := hF.zb.frozen 0
                  have z1 := hF.zb.cell (i := 1) (by simp)
                  have f1 := hF.zb.frozen 1
                  have z2 := hF.zb.cell (i := 2) (by simp)
                  have f2 := hF.zb.frozen 2
                  have z3 := hF.zb.cell (i := 3) (by simp)
                  have f3 := hF.zb.frozen 3
                  have z4 := hF.zb.cell (i := 4) (by simp)
                  have f4 := hF.zb.frozen 4
                  have z5 := hF.zb.cell (i := 5) (by simp)
                  have f5 := hF.zb.frozen 5
                  have z6 := hF.zb.cell (i := 6) (by simp)
                  have f6 := hF.zb.frozen 6
                  have z7 := hF.zb.cell (i := 7) (by simp)
                  have f7 := hF.zb.frozen 7
                  rw [hx] at c0 c1 c2 c3 c4 c5 c6 c7
                  have HO := Lib.hid hF.old
                  clear hF hx hM hxl hW
                  go_wp2
                  refine bodyPost_ret (v := .agg #[.int .u64 (gt (blockL h8 (wordsL l) count last) 0 : Nat), .int .u64 (gt (blockL h8 (wordsL l) count last) 1 : Nat), .int .u64 (gt (blockL h8 (wordsL l) count last) 2 : Nat), .int .u64 (gt (blockL h8 (wordsL l) count last) 3 : Nat), .int .u64 (gt (blockL h8 (wordsL l) count last) 4 : Nat), .int .u64 (gt (blockL h8 (wordsL l) count last) 5 : Nat), .int .u64 (gt (blockL h8 (wordsL l) count last) 6 : Nat), .int .u64 (gt (blockL h8 (wordsL l) count last) 7 : Nat)]) (by simp [results, Tryz.results80, go_sem, *]) rfl ⟨by simp only [vec8, HW.out], ?_⟩
                  exact (((((((HO.out.setCell (Nat.le_succ _) _).setCell (Nat.le_succ _) _).setCell (Nat.le_succ _) _).setCell (Nat.le_succ _) _).setCell (Nat.le_succ _) _).setCell (Nat.le_succ _) _).setCell (Nat.le_succ _) _).setCell (Nat.le_succ _) _
end Go.Proofs.YtcfcfijmfgnpfaaGreatDoor
end

section
namespace Go.Proofs.YtcfcfijmfgnpfaaGreatDoor
open Go.RowKit
set_option linter.unusedVariables false
set_option linter.unusedSimpArgs false

/-- A hasher's cells. -/
def hcells (h blk : List Nat) (held count : Nat) : List Value := (h.map fun (n : Nat) => Value.int .u64 (n : Int)) ++ (Bs blk ++ [.int .i64 (held : Nat), .int .u64 (count : Nat)])
/-- A hasher lies in block b. -/
structure HX (b : Nat) (h blk : List Nat) (held count : Nat) (w : World) : Prop where
  at_ : w.heap[b]? = some (.cells (hcells h blk held count).toArray 174 (0, 0))
  hl : h.length = 8
  bl : blk.length = 128
  hs : Small h
  bs : ∀ i, gt blk i < 256
theorem HX.lt {b : Nat} {h blk : List Nat} {held count : Nat} {w : World} (x : HX b h blk held count w) : b < w.heap.size := (Array.getElem?_eq_some_iff.1 x.at_).1
theorem HX.cellAt {b : Nat} {h blk : List Nat} {held count : Nat} {w : World} (x : HX b h blk held count w) (i : Nat) : w.cell? ⟨b, i, none⟩ = (hcells h blk held count)[i]? := by
  simp [World.cell?, x.at_]
theorem HX.frozen {b : Nat} {h blk : List Nat} {held count : Nat} {w : World} (x : HX b h blk held count w) (i : Nat) : w.frozen? ⟨b, i, none⟩ = false := by simp [World.frozen?, x.at_]
theorem HX.h {b : Nat} {h blk : List Nat} {held count : Nat} {w : World} (x : HX b h blk held count w) {i : Nat} (hi : i < 8) : w.cell? ⟨b, i, none⟩ = some (.int .u64 (gt h i : Nat)) := by
  rw [x.cellAt, hcells, List.getElem?_append_left (by simp [x.hl]; exact hi)]
  have := x.hl
  simp [gt, this, hi]
theorem HX.b {b : Nat} {h blk : List Nat} {held count : Nat} {w : World} (x : HX b h blk held count w) {i : Nat} (hi : i < 128) : w.cell? ⟨b, 8 + i, none⟩ = some (.int .u8 (gt blk i : Nat)) := by
  have h1 := x.hl
  have h2 := x.bl
  rw [x.cellAt, hcells, List.getElem?_append_right (by simp [h1])]
  simp only [List.length_map, h1, Nat.add_sub_cancel_left]
  rw [List.getElem?_append_left (by rw [Bs_length, h2]; exact hi)]
  simp [Bs, gt, h2, hi]
theorem HX.held {b : Nat} {h blk : List Nat} {held count : Nat} {w : World} (x : HX b h blk held count w) : w.cell? ⟨b, 136, none⟩ = some (.int .i64 (held : Nat)) := by
  have h1 := x.hl
  have h2 := x.bl
  rw [x.cellAt, hcells, List.getElem?_append_right (by simp [h1])]
  simp only [List.length_map, h1]
  rw [List.getElem?_append_right (by rw [Bs_length, h2]; decide), Bs_length, h2]
  rfl
theorem HX.count {b : Nat} {h blk : List Nat} {held count : Nat} {w : World} (x : HX b h blk held count w) : w.cell? ⟨b, 137, none⟩ = some (.int .u64 (count : Nat)) := by
  have h1 := x.hl
  have h2 := x.bl
  rw [x.cellAt, hcells, List.getElem?_append_right (by simp [h1])]
  simp only [List.length_map, h1]
  rw [List.getElem?_append_right (by rw [Bs_length, h2]; decide), Bs_length, h2]
  rfl
theorem HX.setH {b : Nat} {h blk : List Nat} {held count : Nat} {w : World} (x : HX b h blk held count w) (i : Nat) (hi : i < 8) {v : Nat} (hv : v < 18446744073709551616) : HX b (h.set i v) blk held count (w.setCell ⟨b, i, none⟩ (.int .u64 (v : Nat))) := by
  refine ⟨(set_blockM _ x.at_).trans ?_, by simp [x.hl], x.bl, x.hs.set i hv, x.bs⟩
  have h1 := x.hl
  congr 2
  apply Array.ext'
  simp only [Array.toList_setIfInBounds, hcells, List.map_set]
  rw [List.set_append_left _ _ (by simp [h1]; exact hi)]
theorem HX.setHeld {b : Nat} {h blk : List Nat} {held count : Nat} {w : World} (x : HX b h blk held count w) (n : Nat) : HX b h blk n count (w.setCell ⟨b, 136, none⟩ (.int .i64 (n : Nat))) := by
  refine ⟨(set_blockM _ x.at_).trans ?_, x.hl, x.bl, x.hs, x.bs⟩
  have h1 := x.hl
  have h2 := x.bl
  congr 2
  apply Array.ext'
  simp only [Array.toList_setIfInBounds, hcells]
  rw [List.set_append_right _ _ (by simp [h1])]
  simp only [List.length_map, h1]
  rw [List.set_append_right _ _ (by rw [Bs_length, h2]; decide), Bs_length, h2]
  rfl
theorem HX.setCount {b : Nat} {h blk : List Nat} {held count : Nat} {w : World} (x : HX b h blk held count w) (n : Nat) : HX b h blk held n (w.setCell ⟨b, 137, none⟩ (.int .u64 (n : Nat))) := by
  refine ⟨(set_blockM _ x.at_).trans ?_, x.hl, x.bl, x.hs, x.bs⟩
  have h1 := x.hl
  have h2 := x.bl
  congr 2
  apply Array.ext'
  simp only [Array.toList_setIfInBounds, hcells]
  rw [List.set_append_right _ _ (by simp [h1])]
  simp only [List.length_map, h1]
  rw [List.set_append_right _ _ (by rw [Bs_length, h2]; decide), Bs_length, h2]
  rfl
theorem HX.keep {b : Nat} {h blk : List Nat} {held count : Nat} {w w' : World} (x : HX b h blk held count w) (hk : w'.heap[b]? = w.heap[b]?) : HX b h blk held count w' := ⟨hk.trans x.at_, x.hl, x.bl, x.hs, x.bs⟩
/-- The block's bytes as a range of cells. -/
theorem HX.range {b : Nat} {h blk : List Nat} {held count : Nat} {w : World} (x : HX b h blk held count w) : w.rangeAt b 8 (Bs blk) := by
  intro j v hv
  have hj : j < 128 := by
    have := (List.getElem?_eq_some_iff.1 hv).1
    rw [Bs_length, x.bl] at this; exact this
  rw [x.b hj]
  have h2 := x.bl
  simp [Bs, h2, hj] at hv
  rw [← hv]
  simp [gt, h2, hj]

/-- A word of a block is made from its lowest byte on: n bytes of the block are laid into m. -/
def mTo (p : List Nat) (n : Nat) : List Nat := (List.range 16).map fun j => wordTo p (8 * j) (min 8 (n - 8 * j))
theorem mTo_len (p : List Nat) (n : Nat) : (mTo p n).length = 16 := by simp [mTo]
theorem mTo_zero (p : List Nat) : mTo p 0 = List.replicate 16 0 := by
  refine ext_gt (by simp [mTo]) fun i hi => ?_
  rw [gt_zeros, mTo, gt_map_range (by simpa [mTo] using hi)]
  simp [wordTo]
theorem mTo_all (p : List Nat) : mTo p 128 = wordsL p := by
  unfold mTo wordsL
  refine List.map_congr_left fun j hj => ?_
  have := List.mem_range.1 hj
  rw [show min 8 (128 - 8 * j) = 8 by omega]
theorem mTo_succ (p : List Nat) (n : Nat) (hn : n < 128) : mTo p (n + 1) = (mTo p n).set (n / 8) (gt (mTo p n) (n / 8) + 256 ^ (n % 8) * gt p n) := by
  have hq : n / 8 < 16 := by omega
  refine ext_gt (by simp [mTo]) fun i hi => ?_
  rw [mTo_len] at hi
  by_cases e : i = n / 8
  · subst e
    rw [gt_set_same (by rw [mTo_len]; exact hq), mTo, mTo, gt_map_range hq, gt_map_range hq]
    rw [show min 8 (n + 1 - 8 * (n / 8)) = n % 8 + 1 by omega, show min 8 (n - 8 * (n / 8)) = n % 8 by omega, wordTo, show 8 * (n / 8) + n % 8 = n by omega]
  · rw [gt_set_ne (fun h => e h.symm), mTo, mTo, gt_map_range hi, gt_map_range hi]
    congr 1; omega
theorem mTo_small {p : List Nat} (hp : ∀ i, gt p i < 256) (n : Nat) (hn : n < 128) : gt (mTo p n) (n / 8) < 256 ^ (n % 8) := by
  rw [mTo, gt_map_range (by omega), show min 8 (n - 8 * (n / 8)) = n % 8 by omega]
  exact wordTo_lt hp _ _
end Go.Proofs.YtcfcfijmfgnpfaaGreatDoor
end

section
namespace Go.Proofs.YtcfcfijmfgnpfaaGreatDoor
open Go.RowKit
set_option linter.unusedVariables false
set_option linter.unusedSimpArgs false

theorem info128 : (Tryz.prog.info? 172).map (·.size) = some 128 := by kernel_rfl

theorem or_word (x c k : Nat) (hx : x < 256 ^ k) (hc : c < 256) (hk : k < 8) : bits .or .u64 (x : Int) (IntKind.u64.wrap ((c : Int) * 2 ^ (8 * k))) = ((x + 256 ^ k * c : Nat) : Int) := by
  have e : (256 : Nat) ^ k = 2 ^ (8 * k) := by rw [Nat.pow_mul]
  have h64 : (2 : Nat) ^ (8 * k) ≤ 2 ^ 56 := Nat.pow_le_pow_right (by decide) (by omega)
  have hm : c * 2 ^ (8 * k) ≤ 255 * 2 ^ 56 := Nat.mul_le_mul (by omega) h64
  have h2 : IntKind.u64.wrap ((c : Int) * 2 ^ (8 * k)) = ((c * 2 ^ (8 * k) : Nat) : Int) := by
    rw [IntKind.wrap_u64, show (c : Int) * 2 ^ (8 * k) = ((c * 2 ^ (8 * k) : Nat) : Int) by norm_cast]
    generalize c * 2 ^ (8 * k) = y at hm ⊢
    omega
  rw [e] at hx
  rw [h2, bits_or_u64_nat _ _ (by omega) (by omega), e]
  have := Nat.two_pow_add_eq_or_of_lt (i := 8 * k) (b := x) hx c
  congr 1
  rw [Nat.or_comm, Nat.mul_comm c, ← this, Nat.add_comm]

theorem wpl_loadm {ops : Array Oper} {rest : List Oper} {o : Oper} {a : Act} {Q : Exit → Act → World → Prop} {w : World} (b k : Nat) (ty : TypeId) (x : Operand) (cs : List Value) (d : TypeDesc) (hgd : o.guard = none) (ho : o.op = .load ty x) (hx : a.eval x = .pointer (some ⟨b, k, none⟩)) (hc : w.rangeAt b k cs)
    (hu : Tryz.prog.underlying ty = some d) (hd : d.isRow = true) (hi : (Tryz.prog.info? ty).map (·.size) = some cs.length) (h : wpList Tryz.prog ops Q rest (a.put o.dst (.agg cs.toArray)) w) : wpList Tryz.prog ops Q (o :: rest) a w := by
  refine wpList_plain hgd fun K hK => ?_
  unfold Oper.wp execOp
  simp only [ho, hx, Sem.run_bind, Sem.run_pure, run_loadAt_mid w b k ty cs d hc hu hd hi, Result.andThen_ok]
  exact hK _ _ h

theorem idx_bytes (T : TypeId) (N : Nat) (hT : Tryz.prog.underlying T = some (.array N 5)) (l : List Nat) (n : Nat) (hn : n < N) (hl : n < l.length) (w : World) : (Instr.index T (.agg (Bs l).toArray) (.int .i64 (n : Nat))).run Tryz.prog w = .ok (.int .u8 (gt l n : Nat)) w := by
  obtain ⟨i0, hi, hz0, hz1, hz2⟩ := info_parts info5
  have hn' : (n : Int) < (N : Int) := by omega
  have hc : (Bs l)[n]? = some (.int .u8 (gt l n : Nat)) := by simp [Bs, gt, hl]
  have hu := Tryz.underlying5
  simp [Instr.index, asIntOf, run_underlying hT, part, isAgg, run_underlying hu, sizeOf, typeInfo, hi, hz1, hn, hc]

/-- The frame while m is made. -/
structure FA (w : World) (b mb vb : Nat) (h blk : List Nat) (held count : Nat) (m v : List Nat) (wr : World) : Prop where
  hx : HX b h blk held count wr
  mx : WBox 208 mb m wr
  vx : WBox 208 vb v wr
  ml : m.length = 16
  vl : v.length = 16
  n1 : b < mb
  n2 : mb < vb
  n3 : 3 ≤ b
  gl : Glob wr
  old : w.grownBy wr (some b)
  nw : w.heap.size ≤ mb

theorem Glob.cell {w : World} (h : Glob w) {i : Nat} (hi : i < 8) : w.cell? ⟨0, i, none⟩ = some (.int .u64 (gt beginL i : Nat)) := by
  have : i < beginL.length := by simp [beginL]; exact hi
  obtain ⟨t, ht⟩ := h.beg
  simp [World.cell?, ht, Ws, this, gt]
theorem FA.round {w wr w' : World} {b mb vb : Nat} {h blk : List Nat} {held count : Nat} {m v v' : List Nat} (f : FA w b mb vb h blk held count m v wr) (hv : WBox 208 vb v' w') (hg : wr.grownBy w' (some vb)) (hl : v'.length = 16) : FA w b mb vb h blk held count m v' w' := by
  have n1 := f.n1
  have n2 := f.n2
  have n3 := f.n3
  have nw := f.nw
  have l1 := f.hx.lt
  have l2 := f.mx.lt
  have ho := f.old
  refine ⟨f.hx.keep (hg.block _ l1 (by simp; omega)), f.mx.keep' (hg.block _ l2 (by simp; omega)), hv, f.ml, hl, n1, n2, n3, f.gl.grown hg (fun k hk => by cases hk; omega), ⟨hg.os.trans ho.os, hg.tape.trans ho.tape, hg.output.trans ho.output, Nat.le_trans ho.size hg.size, fun k hk hr => (hg.block k (Nat.lt_of_lt_of_le hk ho.size) (by simp; omega)).trans (ho.block k hk hr)⟩, nw⟩
theorem grown_set {w wr : World} {b c i : Nat} {v : Value} (h : w.grownBy wr (some b)) (hc : c = b ∨ w.heap.size ≤ c) : w.grownBy (wr.setCell ⟨c, i, none⟩ v) (some b) :=
  ⟨h.os, h.tape, h.output, by have := h.size; simp; omega, fun k hk hr => (set_other (by
    rcases hc with e | e
    · subst e; exact fun e => hr (by rw [e])
    · simp only; omega)).trans (h.block k hk hr)⟩
theorem grown_drew {w wr : World} {r : Option Nat} (h : w.grownBy wr r) : w.grownBy wr.drew r := ⟨h.os, h.tape, h.output, h.size, h.block⟩
theorem Glob.setc {w : World} {c i : Nat} {v : Value} (h : Glob w) (hc : 3 ≤ c) : Glob (w.setCell ⟨c, i, none⟩ v) := h.of (by simp) (fun k hk => set_other (by simp only; omega))
theorem FA.setm {w wr : World} {b mb vb : Nat} {h blk : List Nat} {held count : Nat} {m v : List Nat} (f : FA w b mb vb h blk held count m v wr) (i : Nat) {x : Nat} (hx : x < 18446744073709551616) : FA w b mb vb h blk held count (m.set i x) v (wr.setCell ⟨mb, i, none⟩ (.int .u64 (x : Nat))) := by
  have n1 := f.n1
  have n2 := f.n2
  have n3 := f.n3
  exact ⟨f.hx.keep (set_other (by simp only; omega)), f.mx.set i hx, f.vx.keep' (set_other (by simp only; omega)), by simp [f.ml], f.vl, n1, n2, n3, f.gl.setc (by omega), grown_set f.old (.inr f.nw), f.nw⟩
theorem FA.setv {w wr : World} {b mb vb : Nat} {h blk : List Nat} {held count : Nat} {m v : List Nat} (f : FA w b mb vb h blk held count m v wr) (i : Nat) {x : Nat} (hx : x < 18446744073709551616) : FA w b mb vb h blk held count m (v.set i x) (wr.setCell ⟨vb, i, none⟩ (.int .u64 (x : Nat))) := by
  have n1 := f.n1
  have n2 := f.n2
  have n3 := f.n3
  have nw := f.nw
  exact ⟨f.hx.keep (set_other (by simp only; omega)), f.mx.keep' (set_other (by simp only; omega)), f.vx.set i hx, f.ml, by simp [f.vl], n1, n2, n3, f.gl.setc (by omega), grown_set f.old (.inr (by omega)), nw⟩
theorem FA.seth {w wr : World} {b mb vb : Nat} {h blk : List Nat} {held count : Nat} {m v : List Nat} (f : FA w b mb vb h blk held count m v wr) (i : Nat) (hi : i < 8) {x : Nat} (hx : x < 18446744073709551616) : FA w b mb vb (h.set i x) blk held count m v (wr.setCell ⟨b, i, none⟩ (.int .u64 (x : Nat))) := by
  have n1 := f.n1
  have n2 := f.n2
  exact ⟨f.hx.setH i hi hx, f.mx.keep' (set_other (by simp only; omega)), f.vx.keep' (set_other (by simp only; omega)), f.ml, f.vl, n1, n2, f.n3, f.gl.setc f.n3, grown_set f.old (.inl rfl), f.nw⟩
theorem FA.drew {w wr : World} {b mb vb : Nat} {h blk : List Nat} {held count : Nat} {m v : List Nat} (f : FA w b mb vb h blk held count m v wr) : FA w b mb vb h blk held count m v wr.drew :=
  ⟨f.hx.keep rfl, f.mx.keep' rfl, f.vx.keep' rfl, f.ml, f.vl, f.n1, f.n2, f.n3, f.gl.of (Nat.le_refl _) (fun _ _ => rfl), grown_drew f.old, f.nw⟩

set_option maxHeartbeats 8000000 in
set_option maxRecDepth 100000 in
theorem blake_mixBlock (b : Nat) (h8 blk : List Nat) (held count : Nat) (last : Bool) (w : World) (hG : Glob w) (hx : HX b h8 blk held count w) (hb2 : 3 ≤ b) (hheld : held ≤ 128) (hcount : count ≤ 1099511627776) :
    Calls Tryz.prog 122 #[.pointer (some ⟨b, 0, none⟩), .bool last] w fun e w' => e = .returned (.tuple #[]) ∧ HX b (blockL h8 (wordsL blk) (count + held) last) blk held (count + held) w' ∧ w.grownBy w' (some b) ∧ Glob w' := by
  have k0 := hx.count
  have k1 := hx.held
  have k2 := hx.frozen 137
  have hblt := hx.lt
  have W1 : IntKind.u64.wrap ((held : Nat) : Int) = ((held : Nat) : Int) := by rw [IntKind.wrap_u64]; omega
  have W2 : IntKind.u64.wrap (((count : Nat) : Int) + ((held : Nat) : Int)) = ((count + held : Nat) : Int) := by rw [IntKind.wrap_u64]; omega
  have HXX := Lib.hid hx
  have HGG := Lib.hid hG
  clear hx hG
  go_enter Tryz.func122, Tryz.ntmps122
  go_wp2
  go_still_tail 12, (by kernel_rfl)
  go_upto_region 2 with fail
  obtain ⟨w1, hw1⟩ : ∃ w1, w1 = w.setCell ⟨b, 137, none⟩ (.int .u64 ((count + held : Nat) : Int)) := ⟨_, rfl⟩
  have hct : ((count : Nat) : Int) + ((held : Nat) : Int) = ((count + held : Nat) : Int) := by omega
  have hz16 : (#[.int .u64 0, .int .u64 0, .int .u64 0, .int .u64 0, .int .u64 0, .int .u64 0, .int .u64 0, .int .u64 0, .int .u64 0, .int .u64 0, .int .u64 0, .int .u64 0, .int .u64 0, .int .u64 0, .int .u64 0, .int .u64 0] : Array Value) = Ws (List.replicate 16 0) := rfl
  rw [hct, hz16, ← hw1]
  obtain ⟨w2, hw2⟩ : ∃ w2, w2 = ((w1.alloc (.cells (Ws (List.replicate 16 0)) 208)).alloc (.cells (Ws (List.replicate 16 0)) 208)).drew := ⟨_, rfl⟩
  rw [← hw2]
  have hFA : FA w b w.heap.size (w.heap.size + 1) h8 blk held (count + held) (List.replicate 16 0) (List.replicate 16 0) w2 := by
    have hs1 : w1.heap.size = w.heap.size := by rw [hw1]; simp
    have hx1 : HX b h8 blk held (count + held) w1 := by rw [hw1]; exact HXX.out.setCount _
    have hg1 : Glob w1 := by rw [hw1]; exact HGG.out.setc hb2
    have hgr : w.grownBy w1 (some b) := by rw [hw1]; exact grown_set ⟨rfl, rfl, rfl, Nat.le_refl _, fun _ _ _ => rfl⟩ (.inl rfl)
    have hk : ∀ k, k < w.heap.size → w2.heap[k]? = w1.heap[k]? := fun k hk => by
      rw [hw2]
      exact (Below.heap_alloc _ _ _ (by simp; omega)).trans (Below.heap_alloc _ _ _ (by omega))
    refine ⟨hx1.keep (hk b hblt), ⟨?_, small_zeros 16⟩, ⟨?_, small_zeros 16⟩, rfl, rfl, hblt, by omega, hb2, hg1.of (by rw [hw2]; simp; omega) (fun k hk2 => hk k (by omega)), ⟨?_, ?_, ?_, ?_, fun k hk2 hr => (hk k hk2).trans (hgr.block k hk2 hr)⟩, Nat.le_refl _⟩
    · rw [hw2]
      refine (Below.heap_alloc _ _ _ (by simp; omega)).trans ?_
      have := heap_alloc_new w1 (.cells (Ws (List.replicate 16 0)) 208)
      rwa [hs1] at this
    · rw [hw2]
      have := heap_alloc_new (w1.alloc (.cells (Ws (List.replicate 16 0)) 208)) (.cells (Ws (List.replicate 16 0)) 208)
      rw [World.size_alloc, hs1] at this
      exact this
    · rw [hw2]; exact hgr.os
    · rw [hw2]; exact hgr.tape
    · rw [hw2]; exact hgr.output
    · rw [hw2]; simp; omega
  obtain ⟨mb, hmb⟩ : ∃ mb, mb = w.heap.size := ⟨_, rfl⟩
  obtain ⟨vb, hvb⟩ : ∃ vb, vb = w.heap.size + 1 := ⟨_, rfl⟩
  rw [← hvb, ← hmb] at hFA ⊢
  have HFA := Lib.hid hFA
  have HC := Lib.hid (show count + held ≤ 1099511627904 by omega)
  obtain ⟨ct, hct2⟩ : ∃ ct, ct = count + held := ⟨_, rfl⟩
  rw [← hct2] at HFA HC ⊢
  have HCT := Lib.hid hct2
  clear hFA hw1 hw2 hz16 hct k0 k1 k2 W1 W2 hblt hcount hmb hvb hct2
  go_upto_region 3 with (first | (refine wpl_loadm b 8 172 _ (Bs blk) _ rfl rfl rfl HFA.out.hx.range Tryz.underlying172 rfl (by rw [info128, Bs_length, HFA.out.hx.bl]) ?_) | fail)
  go_wp2
  go_loopw [27] (fun i wr => ∃ n : Nat, n ≤ 128 ∧ i = .int .i64 n ∧ FA w b mb vb h8 blk held ct (mTo blk n) (List.replicate 16 0) wr) (fun i _ => 128 - (intOf i).toNat)
  case atStart => exact ⟨0, by omega, rfl, by rw [mTo_zero]; exact HFA.out⟩
  case round =>
    obtain ⟨n, hn, rfl, hF⟩ := hrel
    by_cases hlt : n < 128
    · have hlt' : (n : Int) < 128 := by omega
      have hby := hF.hx.bs n
      have hsm := mTo_small hF.hx.bs n hlt
      have W3 : IntKind.u64.wrap ((gt blk n : Nat) : Int) = ((gt blk n : Nat) : Int) := by rw [IntKind.wrap_u64]; omega
      have hE := idx_bytes 172 128 Tryz.underlying172 blk n hlt (by rw [hF.hx.bl]; exact hlt)
      have hX : gt (mTo blk n) (n / 8) + 256 ^ (n % 8) * gt blk n < 18446744073709551616 := by
        have h1 : 256 ^ (n % 8) ≤ 256 ^ 7 := Nat.pow_le_pow_right (by decide) (by omega)
        have h2 : 256 ^ (n % 8) * gt blk n ≤ 256 ^ 7 * 255 := Nat.mul_le_mul h1 (by omega)
        have h3 : 256 ^ (n % 8) ≤ 72057594037927936 := h1
        have h4 : 256 ^ (n % 8) * gt blk n ≤ 18374686479671623680 := h2
        omega
      have hn2 := (hF.setm (n / 8) hX).drew
      rw [← mTo_succ blk n hlt] at hn2
      obtain ⟨q, hq⟩ : ∃ q, q = n / 8 := ⟨_, rfl⟩
      obtain ⟨r, hr⟩ : ∃ r, r = n % 8 := ⟨_, rfl⟩
      have W4 : IntKind.i64.wrap ((n : Int) / 8) = (q : Int) := by rw [IntWalk.i64_in _ (by omega)]; omega
      have hq16 : (q : Int) < 16 := by omega
      rw [← hq, ← hr] at hX hn2
      rw [← hq, ← hr] at hsm
      have c1 := hF.mx.cell (i := q) (by rw [mTo_len]; omega)
      have f1 := hF.mx.frozen q
      have O1 := or_word (gt (mTo blk n) q) (gt blk n) r hsm hby (by omega)
      obtain ⟨s8, hs8⟩ : ∃ s8, s8 = 8 * r := ⟨_, rfl⟩
      rw [← hs8] at O1
      have W5 : IntKind.i64.wrap ((n : Int).tmod 8 * 8) = (s8 : Int) := by
        rw [Int.tmod_eq_emod_of_nonneg (by omega), IntWalk.i64_in _ (by omega)]; omega
      have hs64 : (s8 : Int) < 64 := by omega
      obtain ⟨Y, hY⟩ : ∃ Y, Y = gt (mTo blk n) q + 256 ^ r * gt blk n := ⟨_, rfl⟩
      rw [← hY] at O1 hn2
      have HN := Lib.hid hn2
      clear hF hsm hby hX hn2 hq hr hs8 hY
      go_wp2
      go_still_tail 12, (by kernel_rfl)
      go_wp2
      exact ⟨⟨n + 1, by omega, by go_num, HN.out⟩, by simp [intOf]; omega⟩
    · have hn128 : n = 128 := by omega
      subst hn128
      rw [show ((128 : Nat) : Int) = 128 from rfl]
      rw [mTo_all] at hF
      have HF := Lib.hid hF
      clear hF
      go_wp2
      go_loopw [44] (fun i wr => ∃ n : Nat, n ≤ 8 ∧ i = .int .i64 n ∧ ∃ v, FA w b mb vb h8 blk held ct (wordsL blk) v wr ∧ Laid h8 v n) (fun i _ => 8 - (intOf i).toNat)
      case atStart => exact ⟨0, by omega, rfl, _, HF.out, fun t ht => by omega⟩
      case round =>
        obtain ⟨n, hn, rfl, v, hF, hM⟩ := hrel
        by_cases hlt : n < 8
        · have hlt' : (n : Int) < 8 := by omega
          have hlt2 : (n : Int) < 16 := by omega
          obtain ⟨n8, hn8⟩ : ∃ n8, n8 = n + 8 := ⟨_, rfl⟩
          have W1 : IntKind.i64.wrap ((n : Int) + 8) = (n8 : Int) := by rw [IntWalk.i64_in _ (by omega)]; omega
          have hlt3 : (n8 : Int) < 16 := by omega
          have c1 := hF.hx.h hlt
          have c2 := hF.gl.cell hlt
          have c3 := hF.vx.cell (i := n) (by rw [hF.vl]; omega)
          have c4 := hF.vx.cell (i := n8) (by rw [hF.vl]; omega)
          have f1 := hF.vx.frozen n
          have f2 := hF.vx.frozen n8
          have hne : (n8 = n) = False := by simp; omega
          have hne2 : (n = n8) = False := by simp; omega
          have HN := Lib.hid ((hF.setv n (hF.hx.hs n)).setv n8 (beginL_small n)).drew
          have HL8 : Laid h8 ((v.set n (gt h8 n)).set n8 (gt beginL n)) (n + 1) := by
            have hvl := hF.vl
            intro t ht
            by_cases e : t = n
            · subst e
              subst hn8
              exact ⟨by rw [gt_set_ne (by omega), gt_set_same (by omega)], gt_set_same (by simp; omega)⟩
            · have := hM t (by omega)
              rw [gt_set_ne (by omega), gt_set_ne (by omega), gt_set_ne (by omega), gt_set_ne (by omega)]
              exact this
          have HL9 := Lib.hid HL8
          clear hF hM HL8 hn8
          go_wp2
          go_region
          go_wp2
          exact ⟨⟨n + 1, by omega, by go_num, _, HN.out, HL9.out⟩, by simp [intOf]; omega⟩
        · have hn8 : n = 8 := by omega
          subst hn8
          rw [show ((8 : Nat) : Int) = 8 from rfl]
          have hh := hF.hx.hl
          have hv : v = h8 ++ beginL := by
            refine ext_gt (by rw [hF.vl]; simp [hh, beginL]) fun i hi => ?_
            rw [hF.vl] at hi
            by_cases h8' : i < 8
            · rw [gt_append_l (by omega)]; exact (hM i h8').1
            · rw [gt_append_r (by omega), hh]
              have := (hM (i - 8) (by omega)).2
              rwa [show i - 8 + 8 = i by omega] at this
          rw [hv] at hF
          have c12 := hF.vx.cell (i := 12) (by rw [hF.vl]; omega)
          have f12 := hF.vx.frozen 12
          have s12 := hF.vx.small 12
          have cct := hF.hx.count
          obtain ⟨g, hg⟩ : ∃ g, g = gt (h8 ++ beginL) 12 := ⟨_, rfl⟩
          rw [← hg] at c12 s12
          have hctl := HC.out
          have W2 : bits .xor .u64 (g : Int) (ct : Int) = ((g ^^^ ct : Nat) : Int) := bits_xor_u64_nat _ _ s12 (by omega)
          have hF2 := (hF.setv 12 (x := g ^^^ ct) (Nat.xor_lt_two_pow (n := 64) s12 (by omega))).drew
          have HF := Lib.hid hF2
          have HG := Lib.hid hg
          have c14 := hF2.vx.cell (i := 14) (by rw [hF2.vl]; omega)
          have f14 := hF2.vx.frozen 14
          have s14 := hF2.vx.small 14
          clear hF hM hv hg s12
          obtain ⟨v1, hv1⟩ : ∃ v1, v1 = (h8 ++ beginL).set 12 (g ^^^ ct) := ⟨_, rfl⟩
          rw [← hv1] at HF c14 s14
          have N1 := not64 (gt v1 14) s14
          have hV : startL h8 ct last = (if last then v1.set 14 (18446744073709551615 - gt v1 14) else v1) := by rw [hv1, HG.out]; rfl
          have HV := Lib.hid hV
          have s14' : 18446744073709551615 - gt v1 14 < 18446744073709551616 := by omega
          have HS14 := Lib.hid s14'
          obtain ⟨V, hVV⟩ : ∃ V, V = startL h8 ct last := ⟨_, rfl⟩
          have HVV := Lib.hid hVV
          obtain ⟨wS, hwS⟩ : ∃ wS, wS = (wr.setCell ⟨vb, 12, none⟩ (.int .u64 (g ^^^ ct : Nat))).drew := ⟨_, rfl⟩
          rw [← hwS] at HF c14 f14
          have HWS := Lib.hid hwS
          have HH8 := Lib.hid hh
          clear hV hv1 s14 s14' hF2 hh hctl hwS hVV
          go_wp2_with fail
          go_still_tail 8, (by kernel_rfl)
          go_upto_if 70 with fail
          rw [← HWS.out]
          go_cut [5] (fun q wx => q = .pointer (some ⟨vb, 0, none⟩) ∧ FA w b mb vb h8 blk held ct (wordsL blk) V wx)
          case first =>
            clear c12 f12 cct W2
            cases last
            all_goals go_wp2_with fail
            all_goals go_meet
            all_goals first
              | (have HS1 := HF.out
                 rw [show v1 = V by rw [HVV.out]; exact HV.out.symm] at HS1
                 exact ⟨rfl, HS1⟩)
              | (have HS1 := HF.out.setv 14 HS14.out
                 rw [show v1.set 14 (18446744073709551615 - gt v1 14) = V by rw [HVV.out]; exact HV.out.symm] at HS1
                 exact ⟨rfl, HS1⟩)
          case rest =>
          have HS1 := Lib.hid hcut.2
          have hp5 := hcut.1
          subst hp5
          clear hcut c12 f12 cct W2 c14 f14 N1
          go_wp2_with fail
          go_loopw [75] (fun i wr => ∃ n : Nat, n ≤ 12 ∧ i = .int .i64 n ∧ FA w b mb vb h8 blk held ct (wordsL blk) (roundsL (wordsL blk) n V) wr) (fun i _ => 12 - (intOf i).toNat)
          case atStart => exact ⟨0, by omega, rfl, HS1.out⟩
          case round =>
            obtain ⟨n, hn, rfl, hF⟩ := hrel
            by_cases hlt : n < 12
            · have hlt' : (n : Int) < 12 := by omega
              have hmod : ((n : Int)).tmod 10 = ((n % 10 : Nat) : Int) := by rw [Int.tmod_eq_emod_of_nonneg (by omega)]; omega
              obtain ⟨row, hrow⟩ : ∃ row, row = n % 10 := ⟨_, rfl⟩
              rw [← hrow] at hmod
              have hrl : row < 10 := by omega
              have hstep : roundsL (wordsL blk) (n + 1) V = roundL (wordsL blk) (orderL row) (roundsL (wordsL blk) n V) := by rw [hrow]; rfl
              obtain ⟨u, hu⟩ : ∃ u, u = roundsL (wordsL blk) n V := ⟨_, rfl⟩
              rw [← hu] at hF hstep
              have hul := hF.vl
              have HF := Lib.hid hF
              have HST := Lib.hid hstep
              have HRL := Lib.hid hrl
              clear hF hstep hu hrow hrl
              go_wp2_with (first | (go_at_call 136; refine (blake_round vb mb row u (wordsL blk) _ HF.out.gl HF.out.vx HF.out.mx HF.out.vl HF.out.ml HRL.out (by have := HF.out.n2; omega)).mono ?_; rintro e wM ⟨rfl, hM1, hM2⟩) | fail)
              refine ⟨⟨n + 1, by omega, by go_num, ?_⟩, by simp [intOf]; omega⟩
              rw [HST.out]
              exact HF.out.round hM1 hM2 (by rw [roundL, diaL_len, colL_len]; exact hul)
            · have hn12 : n = 12 := by omega
              subst hn12
              rw [show ((12 : Nat) : Int) = 12 from rfl]
              obtain ⟨v, hv⟩ : ∃ v, v = roundsL (wordsL blk) 12 V := ⟨_, rfl⟩
              rw [← hv] at hF
              have hfold : blockL h8 (wordsL blk) ct last = foldL h8 v := by rw [hv, HVV.out]; rfl
              have HFO := Lib.hid hfold
              have HF := Lib.hid hF
              clear hF hv hfold
              go_wp2
              go_loopw [82] (fun i wr => ∃ n : Nat, n ≤ 8 ∧ i = .int .i64 n ∧ ∃ x, FA w b mb vb x blk held ct (wordsL blk) v wr ∧ Folded h8 v x n) (fun i _ => 8 - (intOf i).toNat)
              case atStart => exact ⟨0, by omega, rfl, h8, HF.out, fun t ht => by omega, fun t _ => rfl⟩
              case round =>
                obtain ⟨n, hn, rfl, x, hF, hM⟩ := hrel
                by_cases hlt : n < 8
                · have hlt' : (n : Int) < 8 := by omega
                  have hlt2 : (n : Int) < 16 := by omega
                  obtain ⟨n8, hn8⟩ : ∃ n8, n8 = n + 8 := ⟨_, rfl⟩
                  have W1 : IntKind.i64.wrap ((n : Int) + 8) = (n8 : Int) := by rw [IntWalk.i64_in _ (by omega)]; omega
                  have hlt3 : (n8 : Int) < 16 := by omega
                  have hxl := hF.hx.hl
                  have c1 := hF.hx.h hlt
                  have f1 := hF.hx.frozen n
                  have c3 := hF.vx.cell (i := n) (by rw [hF.vl]; omega)
                  have c4 := hF.vx.cell (i := n8) (by rw [hF.vl]; omega)
                  have s1 := hF.hx.hs n
                  have s2 := hF.vx.small n
                  have s3 := hF.vx.small n8
                  have s23 := Nat.xor_lt_two_pow (n := 64) s2 s3
                  have X1 := bits_xor_u64_nat _ _ s2 s3
                  have X2 := bits_xor_u64_nat _ _ s1 s23
                  have s123 := Nat.xor_lt_two_pow (n := 64) s1 s23
                  have HN := Lib.hid (hF.seth n hlt s123).drew
                  have hM2 : Folded h8 v (x.set n (gt x n ^^^ (gt v n ^^^ gt v n8))) (n + 1) := by
                    refine ⟨fun t ht => ?_, fun t ht => ?_⟩
                    · by_cases e : t = n
                      · subst e; rw [gt_set_same (by omega), hM.2 t (Nat.le_refl _), hn8, Nat.xor_assoc]
                      · rw [gt_set_ne (by omega)]; exact hM.1 t (by omega)
                    · rw [gt_set_ne (by omega)]; exact hM.2 t (by omega)
                  have HM2 := Lib.hid hM2
                  clear hF hM hM2 hxl hn8 s1 s2 s3 s23 s123
                  go_wp2
                  go_still_tail 18, (by kernel_rfl)
                  go_wp2
                  exact ⟨⟨n + 1, by omega, by go_num, _, HN.out, HM2.out⟩, by simp [intOf]; omega⟩
                · have hn8 : n = 8 := by omega
                  subst hn8
                  have hx : x = foldL h8 v := by
                    refine ext_gt (by rw [hF.hx.hl]; simp [foldL]) fun i hi => ?_
                    rw [hF.hx.hl] at hi
                    rw [hM.1 i hi, foldL, gt_map_range hi]
                  rw [← HFO.out] at hx
                  rw [hx] at hF
                  have HF := Lib.hid hF
                  clear hF hx hM
                  go_wp2
                  refine bodyPost_end (v := .tuple #[]) (by simp [results, Tryz.results122, go_sem]) rfl ⟨rfl, ?_, HF.out.old, HF.out.gl⟩
                  have := HF.out.hx
                  rw [HCT.out] at this
                  exact this
end Go.Proofs.YtcfcfijmfgnpfaaGreatDoor
end

section
namespace Go.Proofs.YtcfcfijmfgnpfaaGreatDoor
open Go.RowKit
set_option linter.unusedVariables false
set_option linter.unusedSimpArgs false

/-- What was hashed till now: these bytes, behind this beginning. -/
def Inv (h0 A h blk : List Nat) (held count : Nat) : Prop := held ≤ 128 ∧ count + held = A.length ∧ ∀ rest, chainL h0 (A ++ rest) 0 = chainL h (blk.take held ++ rest) count
/-- .. where more comes. -/
def PInv (h0 A h blk : List Nat) (held count : Nat) : Prop := held < 128 ∧ count + held = A.length ∧ ∀ rest, rest ≠ [] → chainL h0 (A ++ rest) 0 = chainL h (blk.take held ++ rest) count
/-- q is laid at a place of the block. -/
def laidAt (blk q : List Nat) (k : Nat) : List Nat := blk.take k ++ q ++ blk.drop (k + q.length)
theorem laidAt_len {blk q : List Nat} {k : Nat} (hb : blk.length = 128) (hk : k + q.length ≤ 128) : (laidAt blk q k).length = 128 := by simp [laidAt, hb]; omega
theorem PInv.put {h0 A h blk q : List Nat} {held count : Nat} (i : PInv h0 A h blk held count) (hb : blk.length = 128) (hq : q ≠ []) (hk : held + q.length ≤ 128) : Inv h0 (A ++ q) h (laidAt blk q held) (held + q.length) count := by
  obtain ⟨h1, h2, h3⟩ := i
  refine ⟨hk, by rw [List.length_append]; omega, fun rest => ?_⟩
  rw [List.append_assoc, h3 _ (by simp [hq])]
  have e : (laidAt blk q held).take (held + q.length) = blk.take held ++ q := by
    unfold laidAt
    rw [List.take_append_of_le_length (by simp; omega), List.take_of_length_le (by simp; omega)]
  rw [e, List.append_assoc]
theorem Inv.less {h0 A h blk : List Nat} {held count : Nat} (i : Inv h0 A h blk held count) (hlt : held < 128) : PInv h0 A h blk held count := ⟨hlt, i.2.1, fun rest _ => i.2.2 rest⟩
theorem Inv.full {h0 A h blk : List Nat} {count : Nat} (i : Inv h0 A h blk 128 count) (hb : blk.length = 128) : PInv h0 A (blockL h (wordsL blk) (count + 128) false) blk 0 (count + 128) := by
  obtain ⟨h1, h2, h3⟩ := i
  refine ⟨by omega, by omega, fun rest hr => ?_⟩
  have hpos : 0 < rest.length := List.length_pos_iff.2 hr
  rw [h3 rest, List.take_of_length_le (by omega), chainL_more (rest := blk ++ rest) (by rw [List.length_append]; omega), List.take_append_of_le_length (by omega), List.take_of_length_le (by omega), List.drop_append_of_le_length (by omega), List.drop_of_length_le (by omega)]
  rfl

/-- A slice that does not lie in block b. -/
def Apart (v : Value) (b : Nat) : Prop := ∀ a n c, v = .slice (some a) n c → a.block ≠ b
theorem RdB.grown {w wr : World} {v : Value} {l : List Nat} {b : Nat} (h : RdB w v l) (hg : w.grownBy wr (some b)) (ha : Apart v b) : RdB wr v l := by
  rcases h with h | ⟨a, cap, hv, hc, hcell⟩
  · exact .inl h
  · refine .inr ⟨a, cap, hv, hc, fun i hi => ?_⟩
    have hl := cell_block (hcell i hi)
    have hb : (a.add i).block = a.block := by unfold Addr.add; split <;> rfl
    rw [← hcell i hi]
    exact World.cell?_of_block (by rw [hb]; exact hg.block _ hl (by simp; exact ha a _ _ hv))

theorem HX.splice {b : Nat} {h blk q : List Nat} {held count : Nat} {w : World} (x : HX b h blk held count w) (hk : held + q.length ≤ 128) (hq : ∀ i, gt q i < 256) :
    HX b h (laidAt blk q held) held count (w.setRow b ((hcells h blk held count).take (8 + held) ++ Bs q ++ (hcells h blk held count).drop (8 + held + (Bs q).length)).toArray) := by
  have h1 := x.hl
  have h2 := x.bl
  refine ⟨(setRow_heap w b _ _ _ _ x.at_).trans ?_, h1, laidAt_len h2 hk, x.hs, fun i => ?_⟩
  · congr 3
    rw [Bs_length]
    unfold hcells laidAt
    rw [Bs_append, Bs_append]
    have hH : (h.map fun (n : Nat) => Value.int .u64 (n : Int)).length = 8 := by simp [h1]
    have hB : (Bs blk).length = 128 := by rw [Bs_length]; exact h2
    generalize (h.map fun (n : Nat) => Value.int .u64 (n : Int)) = H at hH ⊢
    have hBt : Bs (blk.take held) = (Bs blk).take held := by simp [Bs, List.map_take]
    have hBd : Bs (blk.drop (held + q.length)) = (Bs blk).drop (held + q.length) := by simp [Bs, List.map_drop]
    rw [hBt, hBd]
    generalize Bs blk = B at hB ⊢
    rw [show 8 + held = H.length + held by omega, List.take_length_add_append, show H.length + held + q.length = H.length + (held + q.length) by omega, List.drop_length_add_append,
      List.take_append_of_le_length (by omega), List.drop_append_of_le_length (by omega)]
    simp [List.append_assoc]
  · unfold laidAt
    by_cases c1 : i < (blk.take held ++ q).length
    · rw [gt_append_l c1]
      by_cases c2 : i < (blk.take held).length
      · rw [gt_append_l c2, gt_take (by simp at c2; omega)]; exact x.bs i
      · rw [gt_append_r (by omega)]; exact hq _
    · rw [gt_append_r (by omega), gt_drop]; exact x.bs _
end Go.Proofs.YtcfcfijmfgnpfaaGreatDoor
end

section
namespace Go.Proofs.YtcfcfijmfgnpfaaGreatDoor
open Go.RowKit
set_option linter.unusedVariables false
set_option linter.unusedSimpArgs false

section
variable {P : Program} (w : World)

theorem zeroCells_one (zv : Value) (m : Nat) : Builtin.zeroCells #[zv] m = (List.replicate m zv).toArray := by
  apply Array.ext'
  simp only [Builtin.zeroCells, List.size_toArray, List.length_cons, List.length_nil]
  refine List.ext_getElem (by simp) fun k h1 h2 => ?_
  simp [Nat.mod_one]

theorem run_app_zeros (base : Nat) (t ti ty e : TypeId) (i : TypeInfo) (z zv : Value) (ht : P.underlying t = some (.slice e)) (hti : P.underlying ti = some (.int .i64)) (hi : P.info? e = some i) (hz : i.zero = some z)
    (hsize : i.size = 1) (hby : i.bytes = 1) (hzc : z.cells = #[zv]) (h1 : zv.oneCell' = true)
    (v : Value) (n : Nat) (xs : List Value) (hown : w.ownsRow base e 1 v n xs) (m : Nat) (hm : m ≤ 1000) (hnm : n + m ≤ 1099511627776) (hbase : base ≤ w.heap.size) :
    ∃ v' w', (Builtin.append_ #[t, ti] ty #[v, .int .i64 (m : Nat)]).run P w = .ok v' w' ∧ w'.ownsRow base e 1 v' (n + m) (xs ++ List.replicate m zv) ∧ w.grownBy w' v.ownBlock := by
  have hlen : (xs ++ List.replicate m zv).length = (n + m) * 1 := by rw [List.length_append, hown.1, List.length_replicate]; omega
  have hwr : IntKind.i64.wrap (m : Int) = (m : Int) := IntWalk.i64_in _ (by omega)
  have hneg : ¬ ((m : Int) < 0) := by omega
  have hbig : ¬ (281474976710656 < (m : Int)) := by omega
  have grown : ∀ (old : Nat), old < n + m → ∀ (row : Option Nat),
      (w.drew.alloc (.cells (xs.toArray ++ (List.replicate m zv).toArray ++ Builtin.zeroCells z.cells (grownCap w (n + m) old e - (n + m))) e)).ownsRow base e 1
        (.slice (some ⟨w.heap.size, 0, none⟩) (n + m) (grownCap w (n + m) old e)) (n + m) (xs ++ List.replicate m zv) ∧
      w.grownBy (w.drew.alloc (.cells (xs.toArray ++ (List.replicate m zv).toArray ++ Builtin.zeroCells z.cells (grownCap w (n + m) old e - (n + m))) e)) row := by
    intro old ho row
    have hge := grownCap_ge w (n + m) old e
    have hcm : grownCap w (n + m) old e ≤ maxLen := grownCap_le_maxLen w (n + m) old e (by simp only [maxLen]; omega)
    refine ⟨⟨hlen, .inr ⟨w.heap.size, _, _, rfl, hbase, heap_alloc_new w.drew _, hge, hcm, ?_, ?_⟩⟩, ⟨rfl, rfl, rfl, by simp, fun k hk _ => heap_alloc_old w.drew _ hk⟩⟩
    · simp only [Array.size_append, List.size_toArray, size_zeroCells, hzc, hown.1, List.length_replicate]
      simp; omega
    · simp only [Array.toList_append, List.append_assoc]
      rw [← List.append_assoc, ← hlen]
      exact List.take_left
  rcases hown.2 with ⟨rfl, rfl⟩ | ⟨g, cap, cur, rfl, hbg, hg, hnc, hcm, hcs, htake⟩
  · have hx : xs = [] := List.eq_nil_of_length_eq_zero (by simpa using hown.1)
    subst hx
    by_cases h0 : m = 0
    · subst h0
      refine ⟨.slice none 0 0, w, ?_, World.ownsRow_nil w base e 1, ⟨rfl, rfl, rfl, Nat.le_refl _, fun _ _ _ => rfl⟩⟩
      have hwr0 : IntKind.i64.wrap 0 = 0 := by decide
      simp [Builtin.append_, run_underlying ht, run_underlying hti, sizeOf, typeInfo, hi, asInt, asIntOf, hwr0, hby, hsize]
    · have hgr := grown 0 (by omega) (Value.ownBlock (.slice none 0 0))
      simp only [Nat.zero_add, List.nil_append, Array.empty_append] at hgr ⊢
      refine ⟨_, _, ?_, hgr.1, hgr.2⟩
      have h63' : ¬ (9223372036854775807 < (m : Int)) := by omega
      have h48' : ¬ (281474976710656 < Builtin.nextslicecap m 0) := by rw [nextslicecap_zero (by omega)]; omega
      simp [Builtin.append_, run_underlying ht, run_underlying hti, sizeOf, typeInfo, zeroValue, hi, hz, asInt, asIntOf, hwr, hneg, hbig, hby, hsize, h0, h63', h48', Question.forced, run_firstCells_none, newRow, grownCap, zeroCells_one, hzc]
  · by_cases hroom : n + m ≤ cap
    · have hfit : n + m ≤ cur.size := by rw [hcs]; omega
      have hst := run_storeCells_at P g n e (List.replicate m zv) 0 cur w hg (by simp; omega) (fun u hu => by rw [List.eq_of_mem_replicate hu]; exact h1)
      simp only [Nat.add_zero] at hst
      obtain ⟨C, hC⟩ : ∃ C : Array Value, C = (cur.toList.take n ++ List.replicate m zv ++ cur.toList.drop (n + (List.replicate m zv).length)).toArray := ⟨_, rfl⟩
      rw [← hC] at hst
      have hC1 : C.size = cap := by
        rw [hC]
        simp only [List.size_toArray, List.length_append, List.length_take, List.length_drop, Array.length_toList, List.length_replicate]
        omega
      have hC2 : C.toList.take (n + m) = xs ++ List.replicate m zv := by
        have htake' : cur.toList.take n = xs := by simpa using htake
        rw [hC, htake', ← Nat.mul_one (n + m), ← hlen]
        exact List.take_left
      refine ⟨.slice (some ⟨g, 0, none⟩) (n + m) cap, w.setRow g C, ?_, ⟨hlen, .inr ⟨g, cap, C, rfl, hbg, setRow_heap w g cur C e _ hg, hroom, hcm, by rw [hC1, Nat.mul_one], by rw [Nat.mul_one]; exact hC2⟩⟩, ⟨rfl, rfl, rfl, by simp, fun k _ hk => setRow_other w g k C (fun e => hk (by simp [Value.ownBlock, e]))⟩⟩
      by_cases h0 : m = 0
      · subst h0
        have hwr0 : IntKind.i64.wrap 0 = 0 := by decide
        simp only [List.replicate_zero] at hst
        simp [Builtin.append_, run_underlying ht, run_underlying hti, sizeOf, typeInfo, hi, asInt, asIntOf, hwr0, hby, hsize, hnc, Addr.add_lit, hst]
      · simp [Builtin.append_, run_underlying ht, run_underlying hti, sizeOf, typeInfo, zeroValue, hi, hz, asInt, asIntOf, hwr, hneg, hbig, hby, hsize, h0, hroom, zeroCells_one, hzc, Addr.add_lit, hst]
    · have holds : ∀ j u, xs[j]? = some u → w.cell? ((⟨g, 0, none⟩ : Addr).add j) = some u := hown.cells (g := g) rfl
      have hgr := grown cap (by omega) (Value.ownBlock (.slice (some ⟨g, 0, none⟩) n cap))
      refine ⟨_, _, ?_, hgr.1, hgr.2⟩
      have h0 : m ≠ 0 := by omega
      have h63' : ¬ (9223372036854775807 < ((n : Int) + (m : Int))) := by omega
      have h48' : ¬ (281474976710656 < Builtin.nextslicecap (n + m) cap) := by
        have := growslice_fits (need := n + m) (old := cap) (bytes := 1) (by omega) (by omega)
        omega
      have hfo := run_firstCells_some (P := P) w.drew 1 n ⟨g, 0, none⟩ n cap xs hown.1 (by simpa using holds)
      simp [Builtin.append_, run_underlying ht, run_underlying hti, sizeOf, typeInfo, zeroValue, hi, hz, asInt, asIntOf, hwr, hneg, hbig, hby, hsize, h0, hroom, h63', h48', Question.forced, hfo, newRow, grownCap, zeroCells_one, hzc]
end
end Go.Proofs.YtcfcfijmfgnpfaaGreatDoor
end
