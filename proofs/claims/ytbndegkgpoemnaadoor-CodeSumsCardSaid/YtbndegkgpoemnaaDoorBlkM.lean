/-
  BLAKE2b as numbers: 32 bytes, with or without a key.
-/
import Derived.Test.YtbndegkgpoemnaaDoorBlk2
namespace Go.Proofs.YtbndegkgpoemnaaDoor
set_option linter.unusedVariables false

theorem gt_set_same {l : List Nat} {i x : Nat} (h : i < l.length) : gt (l.set i x) i = x := by simp [gt, h]
theorem gt_set_ne {l : List Nat} {i j x : Nat} (h : i ≠ j) : gt (l.set i x) j = gt l j := by simp [gt, List.getElem?_set_ne h]
theorem gt_ge {l : List Nat} {i : Nat} (h : l.length ≤ i) : gt l i = 0 := by simp [gt, h]
theorem ext_gt {a b : List Nat} (hl : a.length = b.length) (h : ∀ i, i < a.length → gt a i = gt b i) : a = b := by
  refine List.ext_getElem hl fun i h1 h2 => ?_
  have := h i h1
  simpa [gt, h1, h2] using this
theorem gt_append_l {a b : List Nat} {i : Nat} (h : i < a.length) : gt (a ++ b) i = gt a i := by simp [gt, List.getElem?_append_left h]
theorem gt_append_r {a b : List Nat} {i : Nat} (h : a.length ≤ i) : gt (a ++ b) i = gt b (i - a.length) := by simp [gt, List.getElem?_append_right h]
theorem gt_map_range {n i : Nat} {f : Nat → Nat} (h : i < n) : gt ((List.range n).map f) i = f i := by simp [gt, h]
theorem gt_take {l : List Nat} {n i : Nat} (h : i < n) : gt (l.take n) i = gt l i := by simp [gt, h]
theorem gt_drop {l : List Nat} {n i : Nat} : gt (l.drop n) i = gt l (n + i) := by simp [gt]

theorem gt_zeros (n i : Nat) : gt (List.replicate n 0) i = 0 := by
  unfold gt
  rw [List.getD_eq_getElem?_getD, List.getElem?_replicate]; split <;> rfl
theorem small_zeros (n : Nat) : Small (List.replicate n 0) := fun i => by rw [gt_zeros]; decide
/-- V. -/
def beginL : List Nat := [7640891576956012808, 13503953896175478587, 4354685564936845355, 11912009170470909681, 5840696475078001361, 11170449401992604703, 2270897969802886507, 6620516959819538809]
/-- A row of O. -/
def orderL : Nat → List Nat
  | 0 => [0, 1, 2, 3, 4, 5, 6, 7, 8, 9, 10, 11, 12, 13, 14, 15]
  | 1 => [14, 10, 4, 8, 9, 15, 13, 6, 1, 12, 0, 2, 11, 7, 5, 3]
  | 2 => [11, 8, 12, 0, 5, 2, 15, 13, 10, 14, 3, 6, 7, 1, 9, 4]
  | 3 => [7, 9, 3, 1, 13, 12, 11, 14, 2, 6, 5, 10, 4, 0, 15, 8]
  | 4 => [9, 0, 5, 7, 2, 4, 10, 15, 14, 1, 11, 12, 6, 8, 3, 13]
  | 5 => [2, 12, 6, 10, 0, 11, 8, 3, 4, 13, 7, 5, 15, 14, 1, 9]
  | 6 => [12, 5, 1, 15, 14, 13, 4, 10, 0, 7, 6, 3, 9, 2, 8, 11]
  | 7 => [13, 11, 7, 14, 12, 1, 3, 9, 5, 0, 15, 4, 8, 6, 2, 10]
  | 8 => [6, 15, 14, 9, 11, 3, 0, 8, 12, 2, 13, 7, 1, 4, 10, 5]
  | _ => [10, 2, 8, 4, 7, 6, 1, 5, 15, 11, 9, 14, 3, 12, 13, 0]
theorem orderL_lt : ∀ i j, gt (orderL i) j < 16 := by
  intro i j
  by_cases hj : j < 16
  · have h9 : ∀ i, 9 ≤ i → orderL i = orderL 9 := fun i hi => by
      match i, hi with
      | n + 9, _ => rfl
    by_cases hi : i < 10
    · have : ∀ i, i < 10 → ∀ j, j < 16 → gt (orderL i) j < 16 := by decide +kernel
      exact this i hi j hj
    · rw [h9 i (by omega)]
      have : ∀ j, j < 16 → gt (orderL 9) j < 16 := by decide +kernel
      exact this j hj
  · rw [gt_ge]
    · decide
    · unfold orderL; split <;> simp <;> omega
def colL (m s : List Nat) : Nat → List Nat → List Nat
  | 0, v => v
  | k + 1, v => let u := colL m s k v; mixL u k (k + 4) (k + 8) (k + 12) (gt m (gt s (2 * k))) (gt m (gt s (2 * k + 1)))
def diaL (m s : List Nat) : Nat → List Nat → List Nat
  | 0, v => v
  | k + 1, v => let u := diaL m s k v; mixL u k ((k + 1) % 4 + 4) ((k + 2) % 4 + 8) ((k + 3) % 4 + 12) (gt m (gt s (2 * k + 8))) (gt m (gt s (2 * k + 9)))
def roundL (m s v : List Nat) : List Nat := diaL m s 4 (colL m s 4 v)
def roundsL (m : List Nat) : Nat → List Nat → List Nat
  | 0, v => v
  | i + 1, v => roundL m (orderL (i % 10)) (roundsL m i v)
/-- The words that are mixed, at first. -/
def startL (h : List Nat) (count : Nat) (last : Bool) : List Nat :=
  let v := (h ++ beginL).set 12 (gt (h ++ beginL) 12 ^^^ count)
  if last then v.set 14 (18446744073709551615 - gt v 14) else v
def foldL (h v : List Nat) : List Nat := (List.range 8).map fun i => gt h i ^^^ gt v i ^^^ gt v (i + 8)
def blockL (h m : List Nat) (count : Nat) (last : Bool) : List Nat := foldL h (roundsL m 12 (startL h count last))
/-- The lowest j bytes of a word of bytes. -/
def wordTo (p : List Nat) (o : Nat) : Nat → Nat
  | 0 => 0
  | j + 1 => wordTo p o j + 256 ^ j * gt p (o + j)
def wordsL (p : List Nat) : List Nat := (List.range 16).map fun i => wordTo p (8 * i) 8
def padL (p : List Nat) : List Nat := p ++ List.replicate (128 - p.length) 0
/-- What h is behind all that is left. -/
def chainL (h rest : List Nat) (count : Nat) : List Nat :=
  if 128 < rest.length then chainL (blockL h (wordsL (rest.take 128)) (count + 128) false) (rest.drop 128) (count + 128)
  else blockL h (wordsL (padL rest)) (count + rest.length) true
  termination_by rest.length
  decreasing_by simp; omega
def initL (k : Nat) : List Nat := beginL.set 0 ((gt beginL 0 ^^^ 16842784) ^^^ k * 256)
def allL (key p : List Nat) : List Nat := (if key = [] then [] else key ++ List.replicate (128 - key.length) 0) ++ p
def outL (h : List Nat) : List Nat := (List.range 32).map fun i => gt h (i / 8) / 2 ^ (8 * (i % 8)) % 256
/-- The digest. -/
def keyedL (key p : List Nat) : List Nat := outL (chainL (initL (key.take 64).length) (allL (key.take 64) p) 0)

theorem mixL_len (v : List Nat) (a b c d x y : Nat) : (mixL v a b c d x y).length = v.length := by simp [mixL, addS_len, rotS_len]
theorem colL_len (m s v : List Nat) : ∀ k, (colL m s k v).length = v.length
  | 0 => rfl
  | k + 1 => by simp [colL, mixL_len, colL_len m s v k]
theorem diaL_len (m s v : List Nat) : ∀ k, (diaL m s k v).length = v.length
  | 0 => rfl
  | k + 1 => by simp [diaL, mixL_len, diaL_len m s v k]
theorem roundsL_len (m v : List Nat) : ∀ k, (roundsL m k v).length = v.length
  | 0 => rfl
  | k + 1 => by simp [roundsL, roundL, diaL_len, colL_len, roundsL_len m v k]
theorem startL_len (h : List Nat) (hl : h.length = 8) (c : Nat) (b : Bool) : (startL h c b).length = 16 := by
  unfold startL; split <;> simp [hl, beginL]
theorem blockL_len (h m : List Nat) (c : Nat) (b : Bool) : (blockL h m c b).length = 8 := by simp [blockL, foldL]
theorem wordTo_lt {p : List Nat} (hp : ∀ i, gt p i < 256) (o : Nat) : ∀ j, wordTo p o j < 256 ^ j
  | 0 => by simp [wordTo]
  | j + 1 => by
    have h1 := wordTo_lt hp o j
    have h2 := hp (o + j)
    simp only [wordTo, Nat.pow_succ]
    have : 256 ^ j * gt p (o + j) ≤ 256 ^ j * 255 := Nat.mul_le_mul_left _ (by omega)
    omega

theorem addS_small {v : List Nat} (h : Small v) (a b x : Nat) : Small (addS v a b x) := h.set a (Nat.mod_lt _ (by decide))
theorem rotS_small {v : List Nat} (h : Small v) (d a n : Nat) : Small (rotS v d a n) := h.set d (rot_lt (Nat.xor_lt_two_pow (n := 64) (h d) (h a)))
theorem mixL_small {v : List Nat} (h : Small v) (a b c d x y : Nat) : Small (mixL v a b c d x y) :=
  rotS_small (addS_small (rotS_small (addS_small (rotS_small (addS_small (rotS_small (addS_small h _ _ _) _ _ _) _ _ _) _ _ _) _ _ _) _ _ _) _ _ _) _ _ _
theorem colL_small {v : List Nat} (m s : List Nat) (h : Small v) : ∀ k, Small (colL m s k v)
  | 0 => h
  | k + 1 => mixL_small (colL_small m s h k) _ _ _ _ _ _
theorem diaL_small {v : List Nat} (m s : List Nat) (h : Small v) : ∀ k, Small (diaL m s k v)
  | 0 => h
  | k + 1 => mixL_small (diaL_small m s h k) _ _ _ _ _ _
theorem roundsL_small {v : List Nat} (m : List Nat) (h : Small v) : ∀ k, Small (roundsL m k v)
  | 0 => h
  | k + 1 => diaL_small _ _ (colL_small _ _ (roundsL_small m h k) _) _
theorem beginL_small : Small beginL := fun i => by
  by_cases hi : i < 8
  · have : ∀ i, i < 8 → gt beginL i < 18446744073709551616 := by decide
    exact this i hi
  · rw [gt_ge (by simp [beginL]; omega)]; decide
theorem startL_small {h : List Nat} (hs : Small h) (c : Nat) (hc : c < 18446744073709551616) (b : Bool) : Small (startL h c b) := by
  have h0 : Small (h ++ beginL) := fun i => by
    by_cases hi : i < h.length
    · rw [gt_append_l hi]; exact hs i
    · rw [gt_append_r (by omega)]; exact beginL_small _
  have h1 : Small ((h ++ beginL).set 12 (gt (h ++ beginL) 12 ^^^ c)) := h0.set 12 (Nat.xor_lt_two_pow (n := 64) (h0 12) hc)
  unfold startL
  split
  · exact h1.set 14 (by have := h1 14; omega)
  · exact h1
theorem blockL_small {h : List Nat} (m : List Nat) (c : Nat) (hs : Small h) (hc : c < 18446744073709551616) (b : Bool) : Small (blockL h m c b) := by
  have hv := roundsL_small m (startL_small hs c hc b) 12
  intro i
  by_cases hi : i < 8
  · rw [blockL, foldL, gt_map_range hi]
    exact Nat.xor_lt_two_pow (n := 64) (Nat.xor_lt_two_pow (n := 64) (hs i) (hv i)) (hv _)
  · rw [gt_ge (by rw [blockL_len]; omega)]; decide

theorem chainL_more {h rest : List Nat} {c : Nat} (hl : 128 < rest.length) : chainL h rest c = chainL (blockL h (wordsL (rest.take 128)) (c + 128) false) (rest.drop 128) (c + 128) := by
  rw [chainL, if_pos hl]
theorem chainL_last {h rest : List Nat} {c : Nat} (hl : rest.length ≤ 128) : chainL h rest c = blockL h (wordsL (padL rest)) (c + rest.length) true := by
  rw [chainL, if_neg (by omega)]

/-- 'abc'. -/
theorem known_abc : keyedL [] [97, 98, 99] = [189, 221, 129, 60, 99, 66, 57, 114, 49, 113, 239, 63, 238, 152, 87, 155, 148, 150, 78, 59, 177, 203, 62, 66, 114, 98, 200, 192, 104, 213, 35, 25] := by
  have e : chainL (initL 0) [97, 98, 99] 0 = blockL (initL 0) (wordsL (padL [97, 98, 99])) 3 true := by rw [chainL, if_neg (by decide)]; rfl
  show outL (chainL (initL 0) [97, 98, 99] 0) = _
  rw [e]
  decide +kernel
end Go.Proofs.YtbndegkgpoemnaaDoor
