/-
  AgendaCarries, walked.
-/
import Derived.Test.YtbpgiahbnijidaaCar2
namespace Go.Proofs.Ytbpgiahbnijidaa
open Go.RowKit Go.Shelf
set_option linter.unusedVariables false
set_option linter.unusedSimpArgs false

theorem Car.later {wb w : World} {g : Nat} {ts : List Tk} {vo : Value} {ns : List Int} (h : Car wb g ts vo ns w) {w' : World} (hb : Below w.heap.size w w') : Car wb g ts vo ns w' := by
  obtain ⟨⟨v, hA⟩, hB, hG⟩ := h
  exact ⟨⟨v, hA.later hb⟩, hB.trans (hb.mono hB.size), hG.of (Nat.le_refl _) (fun k hk => hb.block k (hG.block hk).2)⟩
theorem wantL_len (n la : Nat) : (wantL n la).length = n + la := by simp [wantL]
theorem wantL_lo {n la i : Nat} (h : i < n) : (wantL n la).getD i 0 = 10 + (i : Nat) := by
  simp [wantL, List.getD, List.getElem?_append, h]
theorem wantL_hi {n la i : Nat} (h : n ≤ i) (h2 : i < n + la) : (wantL n la).getD i 0 = (i : Int) - (n : Nat) := by
  have h3 : i - n < la := by omega
  simp [wantL, List.getD, List.getElem?_append, h3, show ¬ i < n by omega]
  omega
attribute [local go_sem ↓] build_tk
set_option maxHeartbeats 4000000 in
set_option maxRecDepth 100000 in
theorem agendaCarries_one (n0 la0 mo0 : Int) (w : World) :
    Calls Try.prog 10 #[.int .i64 n0, .int .i64 la0, .int .i64 mo0] w fun e w' => e = .returned (.bool true) ∧ Below w.heap.size w w' := by
  go_enter Try.func10, Try.ntmps10
  by_cases c0 : n0 < 1
  · go_wp2_with fail
    exact bodyPost_ret (v := .bool true) (by simp [results, Try.results10, go_sem]) rfl ⟨rfl, Below.refl _ _⟩
  by_cases c1 : 6 < n0
  · go_wp2_with fail
    exact bodyPost_ret (v := .bool true) (by simp [results, Try.results10, go_sem]) rfl ⟨rfl, Below.refl _ _⟩
  by_cases c2 : la0 < 0
  · go_wp2_with fail
    exact bodyPost_ret (v := .bool true) (by simp [results, Try.results10, go_sem]) rfl ⟨rfl, Below.refl _ _⟩
  by_cases c3 : 6 < la0
  · go_wp2_with fail
    exact bodyPost_ret (v := .bool true) (by simp [results, Try.results10, go_sem]) rfl ⟨rfl, Below.refl _ _⟩
  by_cases c4 : mo0 < 1
  · go_wp2_with fail
    exact bodyPost_ret (v := .bool true) (by simp [results, Try.results10, go_sem]) rfl ⟨rfl, Below.refl _ _⟩
  by_cases c5 : 6 < mo0
  · go_wp2_with fail
    exact bodyPost_ret (v := .bool true) (by simp [results, Try.results10, go_sem]) rfl ⟨rfl, Below.refl _ _⟩
  obtain ⟨n, rfl⟩ : ∃ n : Nat, n0 = (n : Int) := ⟨n0.toNat, by omega⟩
  obtain ⟨la, rfl⟩ : ∃ n : Nat, la0 = (n : Int) := ⟨la0.toNat, by omega⟩
  obtain ⟨mo, rfl⟩ : ∃ n : Nat, mo0 = (n : Int) := ⟨mo0.toNat, by omega⟩
  have hn : n < 7 := by omega
  have hla : la < 7 := by omega
  have hmo : mo < 7 := by omega
  have hm1 : 1 ≤ mo := by omega
  have RB := run_build2
  obtain ⟨g, hg⟩ : ∃ g, g = w.heap.size := ⟨_, rfl⟩
  go_wp2_with (first
    | (go_at_call 11; with_reducible refine (st_new _).mono ?_; rw [← hg]; rintro e w1 ⟨rfl, hs⟩; have HS := Lib.hid hs; clear hs hg)
    | fail)
  go_loopw [8] (fun i wr => ∃ (k : Nat), k ≤ la ∧ i = .int .i64 k ∧ AgSt w g (lateL k) wr) (fun i _ => la - (intOf i).toNat)
  case atStart => exact ⟨0, by omega, rfl, HS.out⟩
  case round =>
    obtain ⟨k, hk, rfl, hs⟩ := hrel
    clear HS
    by_cases hlt : k < la
    · have hlt' : (k : Int) < la := by omega
      obtain ⟨T1, hT1⟩ : ∃ T1, T1 = mkT (k : Nat) 2 := ⟨_, rfl⟩
      have B1 := RB (k : Nat) 2
      rw [← hT1] at B1
      clear RB
      have l := late_put k (by omega)
      rw [← hT1] at l
      have HS1 := Lib.hid hs
      have L := Lib.hid l
      have hsr := Lib.hid (srtD _ (late_srt' k (by omega)))
      clear hs l hT1
      go_wp2_with (first
        | (go_at_call 12; with_reducible refine (st_put T1 HS1.out hsr.out (by rw [lateL_len]; omega)).mono ?_; rw [L.out]; rintro e w2 ⟨rfl, hs⟩; have HS := Lib.hid hs; clear hs)
        | fail)
      exact ⟨⟨k + 1, by omega, by go_num, HS.out⟩, by simp [intOf]; omega⟩
    · have hkn : k = la := by omega
      subst hkn
      have HS := Lib.hid (show AgSt w g (carL k 0) wr by simpa [carL] using hs)
      clear hs hlt hk
      obtain ⟨wq, hwq⟩ : ∃ wq, wq = wr := ⟨_, rfl⟩
      subst hwq
      go_wp2_with fail
      go_loopw [9] (fun i wr => ∃ (j : Nat), j ≤ n ∧ i = .int .i64 j ∧ AgSt w g (carL k j) wr) (fun i _ => n - (intOf i).toNat)
      case atStart => exact ⟨0, by omega, rfl, HS.out⟩
      case round =>
        obtain ⟨j, hj, rfl, hs⟩ := hrel
        clear HS
        by_cases hlt : j < n
        · have hlt' : (j : Int) < n := by omega
          obtain ⟨X, hX⟩ : ∃ X : Int, X = 10 + (j : Nat) := ⟨_, rfl⟩
          have WX : IntKind.i64.wrap (10 + (j : Nat)) = X := by rw [IntWalk.i64_in _ (by omega), hX]
          obtain ⟨T1, hT1⟩ : ∃ T1, T1 = mkT X 1 := ⟨_, rfl⟩
          have B1 := RB X 1
          rw [← hT1] at B1
          clear RB
          have l := car_put k (by omega) j (by omega)
          rw [← hX, ← hT1] at l
          have HS1 := Lib.hid hs
          have L := Lib.hid l
          have hsr := Lib.hid (srtD _ (car_srt' k (by omega) j (by omega)))
          clear hs l hT1 hX
          go_wp2_with (first
            | (go_at_call 12; with_reducible refine (st_put T1 HS1.out hsr.out (by rw [carL_len]; omega)).mono ?_; rw [L.out]; rintro e w2 ⟨rfl, hs⟩; have HS := Lib.hid hs; clear hs)
            | fail)
          exact ⟨⟨j + 1, by omega, by go_num, HS.out⟩, by simp [intOf]; omega⟩
        · have hkn : j = n := by omega
          subst hkn
          have HC := Lib.hid (Car.new hs)
          clear hs hlt hj RB
          obtain ⟨wq, hwq⟩ : ∃ wq, wq = wr := ⟨_, rfl⟩
          subst hwq
          go_wp2_with fail
          go_loopw [10, 11] (fun vo i wr => ∃ (q : Nat), q ≤ 14 ∧ i = .int .i64 ((q : Nat) + 1) ∧ Car w g (goK j k mo q).1 vo (goK j k mo q).2 wr) (fun _ i _ => 15 - (intOf i).toNat)
          case atStart => exact ⟨0, by omega, rfl, HC.out⟩
          case round =>
            obtain ⟨q, hq, rfl, hs⟩ := hrel
            clear HC
            by_cases hlt : q < 14
            · have hlt' : (q : Int) + 1 ≤ 14 := by omega
              obtain ⟨d, hd⟩ : ∃ d, d = dueL (goK j k mo q).1 ((q : Nat) + 1) (mo : Nat) := ⟨_, rfl⟩
              obtain ⟨D, hD⟩ : ∃ D, D = d.length := ⟨_, rfl⟩
              have hln := goK_len j k mo q
              have hdm := dueL_most (goK j k mo q).1 ((q : Nat) + 1) (mo : Nat) (by omega)
              rw [← hd, ← hD] at hdm
              have hdm2 : ((mo : Int) < (D : Int)) = False := by simp; omega
              obtain ⟨ts2, hts2⟩ : ∃ t, t = (goK j k mo (q + 1)).1 := ⟨_, rfl⟩
              have e1 : ((goK j k mo q).1).drop (dueL (goK j k mo q).1 ((q : Nat) + 1) (mo : Nat)).length = ts2 := by rw [hts2]; rfl
              have e2 : (goK j k mo (q + 1)).2 = (goK j k mo q).2 ++ d.map (·.name) := by rw [hd]; rfl
              obtain ⟨ns, hns⟩ : ∃ ns, ns = (goK j k mo q).2 := ⟨_, rfl⟩
              have hnl : ns.length ≤ 12 := by rw [hns]; omega
              rw [← hns] at hs e2
              have HS := Lib.hid hs
              have E1 := Lib.hid e1
              have E2 := Lib.hid e2
              have HDD := Lib.hid hd
              have HD := Lib.hid hD
              have HT2 := Lib.hid hts2
              have HNL := Lib.hid hnl
              have HLN := Lib.hid hln
              clear hs e1 e2 hd hD hts2 hnl hns hln
              have GQ : decide ((14 : Int) < (q : Int) + 1) = false := by simp; omega
              go_wp2_with (first
                | (go_at_call 17; with_reducible refine (Car.due ((q : Nat) + 1) (mo : Nat) HS.out (by have := HLN.out; omega)).mono ?_; rw [E1.out, ← HDD.out]; rintro e w3 ⟨v3, rfl, hO, hs⟩; obtain ⟨ao, cap, hv⟩ := hO.reads.lenOf; rw [← HD.out] at hv; subst hv; have HO := Lib.hid hO; have HC := Lib.hid hs; clear hs hO HS)
                | fail)
              go_loopw [10, 13] (fun vo i wr => ∃ (m : Nat), m ≤ D ∧ i = .int .i64 m ∧ Car w g ts2 vo (ns ++ (d.take m).map (·.name)) wr ∧ OwnT w.heap.size (.slice ao D cap) d wr) (fun _ i _ => D - (intOf i).toNat)
              case atStart => exact ⟨0, by omega, rfl, by simpa using HC.out, HO.out⟩
              case round =>
                obtain ⟨m, hm, rfl, hs, ho⟩ := hrel
                clear HC HO
                by_cases hlt : m < D
                · have hlt' : (m : Int) < D := by omega
                  have hmd : m < d.length := by have := HD.out; omega
                  obtain ⟨rb, off, rfl, hrg, hrb⟩ := ho.reads.at hmd
                  obtain ⟨y, hy⟩ : ∃ y, y = d[m].name := ⟨_, rfl⟩
                  have cN : wr.cell? ⟨rb, off + m * 36, none⟩ = some (.int .i64 y) := by have := hrg 0 (.int .i64 y) (by simp [tc, hy]); simpa using this
                  have hOW := OwnN.of (w' := wr.alloc (.cells #[.int .i64 y] 3)) hs.got (Nat.le_refl _) (fun k hk => Below.heap_alloc _ _ _ (hs.got.block hk).2)
                  have hl12 : (ns ++ (d.take m).map (·.name)).length ≤ 1000 := by
                    have h1 := HNL.out; have h2 := HLN.out; have h3 := dueL_le (goK j k mo q).1 ((q : Nat) + 1) (mo : Nat)
                    rw [← HDD.out] at h3
                    simp only [List.length_append, List.length_map, List.length_take]; omega
                  have hsz := hs.old.size
                  have hsnoc : ns ++ (d.take m).map (·.name) ++ [y] = ns ++ (d.take (m + 1)).map (·.name) := by
                    rw [List.take_add_one, List.map_append, ← List.append_assoc, List.getElem?_eq_getElem hmd]; simp [hy]
                  have HOW := Lib.hid hOW
                  have HS := Lib.hid hs
                  have HO := Lib.hid ho
                  have HL12 := Lib.hid hl12
                  have HSN := Lib.hid hsnoc
                  have HSZ := Lib.hid hsz
                  clear hOW hs ho hl12 hsnoc hy hrg hsz hrb
                  go_wp2_with (first
                    | (at_builtin; refine wp_app_N (B := w.heap.size) (ub := wr.heap.size) (y := y) rfl rfl rfl rfl HOW.out (by rw [World.cell?, heap_alloc_new]; rfl) HL12.out (by simp; have := HSZ.out; omega) ?_; intro v' w4 hO4 hg4; have HO4 := Lib.hid hO4; have HG4 := Lib.hid hg4; clear hO4 hg4)
                    | fail)
                  have hb : Below wr.heap.size wr (wr.alloc (.cells #[.int .i64 y] 3)) := (Below.refl _ _).alloc (Nat.le_refl _) _
                  have hC := HS.out.later hb
                  have hT := hC.task (HO.out.of (Nat.le_refl _) (fun k hk => hb.block k (HO.out.block hk).2)) HG4.out
                  have hN := hC.app HG4.out HO4.out
                  rw [HSN.out] at hN
                  exact ⟨⟨m + 1, by omega, by go_num, hN, hT⟩, by simp [intOf]; omega⟩
                · have hmD : m = D := by omega
                  subst hmD
                  have hs2 : Car w g ts2 u10 (goK j k mo (q + 1)).2 wr := by
                    have e : d.take m = d := by rw [HD.out]; exact List.take_length
                    rw [e] at hs
                    rw [E2.out]; exact hs
                  rw [HT2.out] at hs2
                  have HS := Lib.hid hs2
                  clear hs hs2 ho
                  go_wp2_with fail
                  exact ⟨⟨q + 1, by omega, by go_num, HS.out⟩, by simp [intOf]; omega⟩
            · have hq14 : q = 14 := by omega
              rw [hq14] at hs
              have GQ : decide ((14 : Int) < (q : Int) + 1) = true := by simp; omega
              have hL0 := goK_want hn hla hmo hm1
              obtain ⟨L, hL⟩ : ∃ L, L = wantL j k := ⟨_, rfl⟩
              rw [hL0, ← hL] at hs
              obtain ⟨N, hN⟩ : ∃ N, N = j + k := ⟨_, rfl⟩
              have hLl : L.length = N := by rw [hL, wantL_len, hN]
              obtain ⟨ao, cap, hv⟩ := hs.got.lenOf
              rw [hLl] at hv
              subst hv
              have WN : IntKind.i64.wrap ((j : Int) + (k : Int)) = (N : Int) := by rw [IntWalk.i64_in _ (by omega), hN]; omega
              obtain ⟨ts2, hts2⟩ : ∃ t, t = (goK j k mo 14).1 := ⟨_, rfl⟩
              rw [← hts2] at hs
              have hN12 : N ≤ 12 := by omega
              have HC := Lib.hid hs
              have HL := Lib.hid hL
              have HLL := Lib.hid hLl
              have HN := Lib.hid hN
              clear hs hL hLl hL0 hts2 hN hlt hq
              obtain ⟨wq, hwq⟩ : ∃ wq, wq = wr := ⟨_, rfl⟩
              subst hwq
              go_wp2_with fail
              clear WN
              go_loopw [14] (fun i wr => ∃ (t : Nat), t ≤ N ∧ i = .int .i64 t ∧ Car w g ts2 (.slice ao N cap) L wr) (fun i _ => N - (intOf i).toNat)
              case atStart => exact ⟨0, by omega, rfl, HC.out⟩
              case round =>
                obtain ⟨t, ht, rfl, hs⟩ := hrel
                clear HC
                by_cases hlt : t < N
                · have hlt' : (t : Int) < N := by omega
                  obtain ⟨gg, -, ⟨cap2, hv⟩, hc⟩ := hs.got.val (i := t) (by rw [HLL.out]; exact hlt)
                  injection hv with h1 h2 h3
                  clear h2 h3
                  subst h1
                  have HC := Lib.hid hs
                  clear hs
                  have hNN := HN.out
                  by_cases hlo : t < j
                  · obtain ⟨X, hX⟩ : ∃ X : Int, X = 10 + (t : Nat) := ⟨_, rfl⟩
                    have WX : IntKind.i64.wrap (10 + (t : Nat)) = X := by rw [IntWalk.i64_in _ (by omega), hX]
                    rw [HL.out, wantL_lo hlo, ← hX] at hc
                    have hlo' : (t : Int) < j := by omega
                    clear hX hNN HL HLL HN c0 c1 c2 c3 c4 c5 hq14
                    go_wp2_with fail
                    exact ⟨⟨t + 1, by omega, by go_num, HC.out⟩, by simp [intOf]; omega⟩
                  · obtain ⟨X, hX⟩ : ∃ X : Int, X = (t : Int) - (j : Nat) := ⟨_, rfl⟩
                    have WX : IntKind.i64.wrap ((t : Int) - (j : Nat)) = X := by rw [IntWalk.i64_in _ (by omega), hX]
                    rw [HL.out, wantL_hi (by omega) (by omega), ← hX] at hc
                    have hlo' : ¬ (t : Int) < j := by omega
                    clear hX hNN HL HLL HN c0 c1 c2 c3 c4 c5 hq14
                    go_wp2_with fail
                    exact ⟨⟨t + 1, by omega, by go_num, HC.out⟩, by simp [intOf]; omega⟩
                · have htN : t = N := by omega
                  subst htN
                  have HC := Lib.hid hs
                  clear hs
                  go_wp2_with (first
                    | (go_at_call 21; with_reducible refine (law_known _).mono ?_; rintro e wk ⟨rfl, hk⟩; have HK := Lib.hid hk; clear hk)
                    | fail)
                  exact bodyPost_ret (v := .bool true) (by simp [results, Try.results10, go_sem]) rfl ⟨rfl, HC.out.old.trans (HK.out.mono HC.out.old.size)⟩
end Go.Proofs.Ytbpgiahbnijidaa
