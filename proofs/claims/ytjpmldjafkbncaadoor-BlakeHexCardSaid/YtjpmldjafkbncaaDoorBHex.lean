/-
  BlakeHex, walked.
-/
import Derived.Test.YtjpmldjafkbncaaDoorBCalls
import Derived.Test.YtjpmldjafkbncaaDoorWholeG
import Derived.Test.YtjpmldjafkbncaaDoorFlat
namespace Go.Proofs.YtjpmldjafkbncaaDoor
open Go.RowKit
set_option linter.unusedVariables false
set_option linter.unusedSimpArgs false

theorem fits_u8s : ∀ (n : Nat) (cs : List Value), Fits (List.replicate n (some .u8)) cs → ∃ l : List Nat, l.length = n ∧ cs = Bs l ∧ ∀ x ∈ l, x < 256
  | 0, cs, h => ⟨[], rfl, by simpa [Bs] using fits_nil h, by simp⟩
  | n + 1, cs, h => by
    rw [List.replicate_succ] at h
    obtain ⟨x, vs, rfl, hw, h'⟩ := fits_int h
    obtain ⟨l, h1, rfl, h2⟩ := fits_u8s n vs h'
    have hx := wf_u8 hw
    refine ⟨x.toNat :: l, by simp [h1], ?_, ?_⟩
    · simp only [Bs, List.map_cons]
      rw [Int.toNat_of_nonneg hx.1]
    · intro y hy
      rcases List.mem_cons.1 hy with rfl | hy
      · omega
      · exact h2 y hy
section
variable {H : Type} {enc : TypeId × Value → H} {w : World} {base : Nat} {spare : Nat → Bool} {held : Bool}
/-- A digest by value comes as its bytes. -/
theorem open_hash {r : Reach} {b0 : Nat} {v : Value} {d : DataW H} {p : List MemPlace} (hv : Value.okWide Tryd.prog w r b0 24 v) (h : DataW.Trod enc Tryd.prog w base spare held 24 v d p) :
    ∃ l : List Nat, v = .agg (Bs l).toArray ∧ l.length = 32 ∧ ∀ x ∈ l, x < 256 := by
  obtain ⟨cs, rfl⟩ : ∃ cs, v = .agg cs := by
    simp only [Value.okWide, Tryd.underlying24] at hv
    obtain ⟨cs, h1, _⟩ := hv
    exact ⟨cs, h1⟩
  obtain ⟨fuel, hf⟩ := h
  have hl : leaves Tryd.prog 4 24 = some (List.replicate 32 (some .u8)) := by kernel_rfl
  obtain ⟨l, h1, h2, h3⟩ := fits_u8s 32 cs.toList (flat_fits 4 _ _ hl fuel _ _ (by simpa [Value.cells] using hf))
  exact ⟨l, by rw [← h2], h1, h3⟩
end
theorem gt_lt_of {l : List Nat} (h : ∀ x ∈ l, x < 256) (i : Nat) : gt l i < 256 := by
  by_cases hi : i < l.length
  · have : gt l i = l[i] := by simp [gt, hi]
    rw [this]; exact h _ (List.getElem_mem hi)
  · rw [gt_ge (by omega)]; decide
theorem run_len_Str (w : World) (ty : TypeId) (l : List Nat) : (Builtin.len_ #[9] ty #[Str l]).run Tryd.prog w = .ok (goInt l.length) w := by
  unfold Str
  rw [run_len_string w _ _ _ Tryd.underlying9]
  simp [Us, ByteArray.size]
theorem run_index_Str (w : World) (l : List Nat) (hb : ∀ x ∈ l, x < 256) (n : Nat) (h : n < l.length) : (Instr.index 9 (Str l) (.int .i64 (n : Int))).run Tryd.prog w = .ok (.int .u8 (gt l n : Nat)) w := by
  unfold Str
  have hs : (ByteArray.mk (Us l).toArray).size = l.length := by simp [Us, ByteArray.size]
  rw [run_index_string w _ _ _ _ Tryd.underlying9, dif_pos ⟨by omega, by rw [hs]; omega⟩]
  have e : ∀ (hh : n < (ByteArray.mk (Us l).toArray).size), (ByteArray.mk (Us l).toArray)[n].toNat = gt l n := by
    intro hh
    show ((Us l).toArray[n]'(by simpa [ByteArray.size] using hh)).toNat = gt l n
    have hx := hb _ (List.getElem_mem h)
    simp only [Us, List.getElem_toArray, List.getElem_map, UInt8.toNat_ofNat', gt, List.getD_eq_getElem?_getD, List.getElem?_eq_getElem h, Option.getD_some]
    omega
  simp only [Int.toNat_natCast]
  rw [e]
theorem bits_and15 (a : Nat) (h : a < 65536) : bits .and .i64 (a : Int) 15 = ((a % 16 : Nat) : Int) := by
  have h1 : (BitVec.ofInt 64 (a : Int)).toNat = a := by
    rw [BitVec.ofInt_natCast, BitVec.toNat_ofNat]; exact Nat.mod_eq_of_lt (by omega)
  have h2 : (BitVec.ofInt 64 (15 : Int)).toNat = 15 := by decide
  have h3 : a &&& 15 = a % 16 := Nat.and_two_pow_sub_one_eq_mod a 4
  show IntKind.i64.wrap ((BitVec.ofInt 64 (a : Int) &&& BitVec.ofInt 64 (15 : Int)).toNat : Int) = _
  rw [BitVec.toNat_and, h1, h2, h3, IntWalk.i64_in _ (by omega)]
theorem w64_in (d : Nat) (h : d < 1000000) : wrap64 (d : Int) = (d : Int) ∧ IntKind.i64.wrap (d : Int) = (d : Int) :=
  ⟨by unfold wrap64; omega, by rw [IntWalk.i64_in _ (by omega)]⟩
theorem w64_add (k : Int) (a d : Nat) (h : k + (a : Int) = (d : Int)) (hd : d < 1000000) : wrap64 (k + (a : Int)) = (d : Int) ∧ IntKind.i64.wrap (k + (a : Int)) = (d : Int) := by
  rw [h]; exact w64_in d hd
theorem w64_sub (g d : Nat) (k : Int) (h : (g : Int) - k = (d : Int)) (hd : d < 1000000) : wrap64 ((g : Int) - k) = (d : Int) ∧ IntKind.i64.wrap ((g : Int) - k) = (d : Int) := by
  rw [h]; exact w64_in d hd
set_option maxHeartbeats 8000000 in
set_option maxRecDepth 100000 in
theorem blakeHex_walk (h : List Nat) (w : World) (hG : Glob w) (hl : h.length = 32) (hb : ∀ x ∈ h, x < 256) :
    Calls Tryd.prog 7 #[.agg (Bs h).toArray] w fun e w' => e = .returned (.bool true) ∧ Below w.heap.size w w' := by
  have HL := Lib.hid hl
  have HB := Lib.hid (gt_lt_of hb)
  have HG := Lib.hid hG
  clear hl hb hG
  go_enter Tryd.func7, Tryd.ntmps7
  obtain ⟨wz, hwz⟩ : ∃ wz, wz = w.alloc (.cells (Bs h).toArray 24) := ⟨_, rfl⟩
  go_upto_region 1 with fail
  rw [← hwz]
  have hzh : wz.heap[w.heap.size]? = some (.cells (Bs h).toArray 24 (0, 0)) := by rw [hwz]; exact heap_alloc_new w _
  have HH := Lib.hid (show Hand w wz by rw [hwz]; exact ⟨HG.out.below (below_new _ _) HG.out.lt, below_new _ _⟩)
  have hlt : w.heap.size < wz.heap.size := by rw [hwz]; simp
  have HZ := Lib.hid hzh
  clear hwz hzh
  have RL : ∀ (ty : TypeId) (w : World), (Builtin.len_ #[9] ty #[Str (hexL h)]).run Tryd.prog w = .ok (.int .i64 64) w := fun ty w => by rw [run_len_Str, hexL_len]; rfl
  have RN := run_neq_Str
  have RG := run_guard_Strs
  go_upto_region 4 with (first
    | (go_at_call 14; refine (blake_Hex h HL.out HB.out _).mono ?_; rintro e wn ⟨rfl, hb⟩; have HZ2 := Lib.hid ((hb.block _ hlt).trans HZ.out); replace HH := Lib.hid (HH.out.on hb); have hlt2 := Nat.lt_of_lt_of_le hlt hb.size; clear hb)
    | (go_at_call 15; refine (ref_Hex h HL.out HB.out _).mono ?_; rintro e wo ⟨rfl, hb⟩; have HZ3 := Lib.hid ((hb.block _ hlt2).trans HZ2.out); replace HH := Lib.hid (HH.out.on hb); clear hb)
    | (refine wpl_load w.heap.size 24 24 _ (Bs h).toArray (0, 0) _ rfl rfl rfl HZ.out Tryd.underlying24 rfl (by rw [infoH, Bs_size, HL.out]) ?_)
    | (refine wpl_load_g w.heap.size 24 24 _ (Bs h).toArray (0, 0) _ (by rfl) rfl rfl HZ2.out Tryd.underlying24 rfl (by rw [infoH, Bs_size, HL.out]) ?_)
    | fail)
  go_wp2
  go_loopw [4] (fun i wr => ∃ n : Nat, n ≤ 64 ∧ i = .int .i64 n ∧ wr = wo) (fun i _ => 64 - (intOf i).toNat)
  case atStart => exact ⟨0, by omega, rfl, rfl⟩
  case round =>
    obtain ⟨n, hn, rfl, rfl⟩ := hrel
    by_cases hlt : n < 64
    · have hlt' : (n : Int) < 64 := by omega
      have hlt2 : n < 64 := hlt
      clear hlt
      obtain ⟨c, hc⟩ : ∃ c, c = gt h (n / 2) := ⟨_, rfl⟩
      have hcb : c < 256 := by rw [hc]; exact HB.out _
      have hcell : wr.cell? ⟨w.heap.size, n / 2, none⟩ = some (.int .u8 (c : Int)) := by rw [hc]; exact cellB HZ3.out (by rw [HL.out]; omega)
      obtain ⟨m, hm⟩ : ∃ m, m = n / 2 := ⟨_, rfl⟩
      rw [← hm] at hcell
      have hm32 : (m : Int) < 32 := by omega
      have D1 : (n : Int).tdiv 2 = (m : Int) := by rw [Int.tdiv_eq_ediv_of_nonneg (by omega)]; omega
      obtain ⟨d, hd⟩ : ∃ d, d = hexAt h n := ⟨_, rfl⟩
      have RI : ∀ w, (Instr.index 9 (Str (hexL h)) (.int .i64 (n : Int))).run Tryd.prog w = .ok (.int .u8 (d : Int)) w := fun w => by
        rw [run_index_Str w _ (hexL_lt h HB.out) n (by rw [hexL_len]; exact hlt2), hd]
        unfold hexL
        rw [gt_map_range hlt2]
      unfold hexAt at hd
      rw [← hc] at hd
      clear hc hm
      by_cases hp : n % 2 = 0
      · rw [if_pos hp] at hd
        have T1 : (n : Int).tmod 2 = 0 := by rw [Int.tmod_eq_emod_of_nonneg (by omega)]; omega
        obtain ⟨a, ha⟩ : ∃ a, a = c / 16 := ⟨_, rfl⟩
        have S1 : (c : Int) / 16 = (a : Int) := by omega
        have S2 : bits .and .i64 (a : Int) 15 = (a : Int) := by rw [bits_and15 a (by omega)]; omega
        rw [← ha] at hd
        unfold digL at hd
        by_cases hten : a < 10
        · rw [if_pos hten] at hd
          have T2 : ((9 : Int) < (a : Int)) = False := by simp; omega
          have V1 : (d : Int) % 256 = (d : Int) := by omega
          have V0 := (w64_add 48 a d (by omega) (by omega)).2
          clear hd ha hten
          go_wp2
          exact ⟨⟨n + 1, by omega, by go_num, trivial⟩, by simp [intOf]; omega⟩
        · rw [if_neg hten] at hd
          have T2 : (9 : Int) < (a : Int) := by omega
          obtain ⟨f, hf⟩ : ∃ f, f = 48 + a := ⟨_, rfl⟩
          obtain ⟨g, hg⟩ : ∃ g, g = 97 + a := ⟨_, rfl⟩
          have V1 : (d : Int) % 256 = (d : Int) := by omega
          have hgd : g - 10 = d := by omega
          have o1 : 48 + (a : Int) = (f : Int) := by omega
          have o2 : 97 + (a : Int) = (g : Int) := by omega
          have o3 : (g : Int) - 10 = (d : Int) := by omega
          have q1 : f < 1000000 := by omega
          have q2 : g < 1000000 := by omega
          have q3 : d < 1000000 := by omega
          have V6 := (w64_add 48 a f o1 q1).2
          have V0 := (w64_add 97 a g o2 q2).2
          have V2 := (w64_sub g d 10 o3 q3).2
          clear q1 q2 q3 o1 o2 o3
          clear hf hg hgd
          clear hd ha hten
          go_wp2
          exact ⟨⟨n + 1, by omega, by go_num, trivial⟩, by simp [intOf]; omega⟩
      · rw [if_neg hp] at hd
        have T1 : ((n : Int).tmod 2 = 0) = False := by simp only [eq_iff_iff, iff_false]; rw [Int.tmod_eq_emod_of_nonneg (by omega)]; omega
        obtain ⟨a, ha⟩ : ∃ a, a = c % 16 := ⟨_, rfl⟩
        have S1 : bits .and .i64 (c : Int) 15 = (a : Int) := by rw [bits_and15 c (by omega), ← ha]
        rw [← ha] at hd
        unfold digL at hd
        by_cases hten : a < 10
        · rw [if_pos hten] at hd
          have T2 : ((9 : Int) < (a : Int)) = False := by simp; omega
          have V1 : (d : Int) % 256 = (d : Int) := by omega
          have V0 := (w64_add 48 a d (by omega) (by omega)).2
          clear hd ha hten
          go_wp2
          exact ⟨⟨n + 1, by omega, by go_num, trivial⟩, by simp [intOf]; omega⟩
        · rw [if_neg hten] at hd
          have T2 : (9 : Int) < (a : Int) := by omega
          obtain ⟨f, hf⟩ : ∃ f, f = 48 + a := ⟨_, rfl⟩
          obtain ⟨g, hg⟩ : ∃ g, g = 97 + a := ⟨_, rfl⟩
          have V1 : (d : Int) % 256 = (d : Int) := by omega
          have hgd : g - 10 = d := by omega
          have o1 : 48 + (a : Int) = (f : Int) := by omega
          have o2 : 97 + (a : Int) = (g : Int) := by omega
          have o3 : (g : Int) - 10 = (d : Int) := by omega
          have q1 : f < 1000000 := by omega
          have q2 : g < 1000000 := by omega
          have q3 : d < 1000000 := by omega
          have V6 := (w64_add 48 a f o1 q1).2
          have V0 := (w64_add 97 a g o2 q2).2
          have V2 := (w64_sub g d 10 o3 q3).2
          clear q1 q2 q3 o1 o2 o3
          clear hf hg hgd
          clear hd ha hten
          go_wp2
          exact ⟨⟨n + 1, by omega, by go_num, trivial⟩, by simp [intOf]; omega⟩
    · have hn64 : n = 64 := by omega
      subst hn64
      rw [show ((64 : Nat) : Int) = 64 from rfl]
      go_wp2_with (first
        | (go_at_call 13; refine (call_known HH.out).mono ?_; rintro e wn ⟨rfl, hb⟩; replace HH := Lib.hid hb; clear hb)
        | fail)
      exact bodyPost_ret (v := .bool true) (by simp [results, Tryd.results7, go_sem]) rfl ⟨rfl, HH.out.old⟩
end Go.Proofs.YtjpmldjafkbncaaDoor
