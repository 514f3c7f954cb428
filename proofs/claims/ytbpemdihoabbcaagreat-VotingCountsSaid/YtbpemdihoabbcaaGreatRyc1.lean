/- A part. -/
import Derived.Test.YtbpemdihoabbcaaGreatUB
import Derived.Conc.WalkWords
namespace Go.Proofs.YtbpemdihoabbcaaGreat
set_option linter.unusedVariables false
set_option linter.unusedSimpArgs false
set_option maxRecDepth 100000
set_option maxHeartbeats 8000000
open Go.RowKit Go.Maps
section
variable {y ab vy pb rb : Nat} {A : Acc} {M : Cls Int} {S S' : Vs} {F : FP} {w w' W W' : World}
attribute [local go_sem ↓] loadSt_V_hide loadSt_W_hide loadSt_T_hide storeT_hide in
theorem rr_Vote1 (h : (rrM y ab vy pb rb A M S).is F w) (hi : VInv S) (hs : SrtS S) (hM : M.length ≤ 10000) (a r : Int) (x : Bal) (hez : voteE S A a r x = 0) (hcase : (cget S.V a r).isSome = true) : Calls Tryz.prog 33 #[.pointer (some ⟨vy, 0, none⟩), .pointer (some ⟨y, 0, none⟩), .int .i64 a, .int .i64 r, .agg #[.int .i64 x.k, .bool x.aye, .int .i64 x.l, .int .i64 x.a, .int .i64 x.n, .int .i64 x.s]] w fun e w' => e = .returned (.int .i64 (voteE S A a r x)) ∧ (rrM y ab vy pb rb A (voteM S A M a r x) (voteS S A a r x)).to F w w' := by
 have HCASE := Lib.hid hcase
 have HEZ := Lib.hid hez
 clear hcase hez
 obtain ⟨bx, hbx⟩ : ∃ bx, bx = w.heap.size := ⟨_, rfl⟩
 obtain ⟨w0, hw0⟩ : ∃ w0, w0 = w.alloc (.cells #[.int .i64 x.k, .bool x.aye, .int .i64 x.l, .int .i64 x.a, .int .i64 x.n, .int .i64 x.s] 28) := ⟨_, rfl⟩
 have hb0 : Below w.heap.size w w0 := by rw [hw0]; exact (Below.refl _ w).alloc (Nat.le_refl _) _
 have h0 : (rrM y ab vy pb rb A M S).is F w0 := Mem.below (m := rrM y ab vy pb rb A M S) h hb0
 have hbo : w0.heap[bx]? = some (balS.obj x) := by rw [hw0, hbx]; exact World.alloc_heap_new _ _
 have hbl : bx < w0.heap.size := (Array.getElem?_eq_some_iff.1 hbo).1
 have hbF : ¬ F bx := fun q => by have := (rrM y ab vy pb rb A M S).lt h q; omega
 have hlb : ∀ W : World, W.heap[bx]? = some (balS.obj x) → (loadSt_V (.pointer (some ⟨bx, 0, none⟩))).run Tryz.prog W = .ok (.agg #[.int .i64 x.k, .bool x.aye, .int .i64 x.l, .int .i64 x.a, .int .i64 x.n, .int .i64 x.s]) W := fun W hW => loadV_at (x := x) (rangeAt_whole (T := balS.T) hW)
 have hLB : ∀ W : World, Below w0.heap.size w0 W → (loadSt_V (.pointer (some ⟨bx, 0, none⟩))).run Tryz.prog W = .ok (.agg #[.int .i64 x.k, .bool x.aye, .int .i64 x.l, .int .i64 x.a, .int .i64 x.n, .int .i64 x.s]) W := fun W hW => hlb W ((hW.block bx hbl).trans hbo)
 have hst : ∀ W, Below w0.heap.size w0 W → (rrM y ab vy pb rb A M S).is F W := fun W hW => Mem.below (m := rrM y ab vy pb rb A M S) h0 hW
 have hto : ∀ W, Below w0.heap.size w0 W → (rrM y ab vy pb rb A M S).to F w W := fun W hW => Mem.to_below (m := rrM y ab vy pb rb A M S) h (hb0.trans (hW.mono hb0.size))
 have hIS := ref6_Is a
 have hVI := ref_IsV x
 have hHAS : ∀ W, Below w0.heap.size w0 W → Calls Tryz.prog 11 #[.pointer (some ⟨vy, 0, none⟩), .int .i64 r] W fun e w' => e = .returned (.bool (decide (plHas S.P r))) ∧ w' = W := fun W hW => by
  obtain ⟨B, hy, -⟩ := rr_y (hst W hW)
  exact ry_Has hy r
 have L0' := Lib.hid (Below.refl w0.heap.size w0)
 have HW0 := Lib.hid hw0
 have HBX := Lib.hid hbx
 have HLB := Lib.hid hLB
 have HTO := Lib.hid hto
 have HIS' := hIS
 have HHAS' := hHAS
 clear hLB
 by_cases ha : isAcc a
 rotate_left
 · have HIS := Lib.hid (show ∀ W, _ from fun W => by have := HIS' W; rw [decide_eq_false (show ¬ (0 ≤ a ∧ a < 10) from ha)] at this; exact this)
   have hE0 : voteE S A a r x = 1 := by unfold voteE; rw [if_pos (.inl ha)]
   exact absurd (hE0.symm.trans HEZ.out) (by decide)
 · have hIS : ∀ W, Calls Tryz.prog 88 #[.int .i64 a] W fun e w' => e = .returned (.bool true) ∧ w' = W := fun W => by have := HIS' W; rwa [decide_eq_true (show 0 ≤ a ∧ a < 10 from ha)] at this
   have HIS := Lib.hid hIS
   cases hok : balOk x with
   | false =>
    have HVI := Lib.hid (show ∀ W, _ from fun W => by have := hVI W; rw [hok] at this; exact this)
    have hE0 : voteE S A a r x = 1 := by unfold voteE; rw [if_pos (.inr hok)]
    exact absurd (hE0.symm.trans HEZ.out) (by decide)
   | true =>
    have HVI := Lib.hid (show ∀ W, _ from fun W => by have := hVI W; rw [hok] at this; exact this)
    by_cases hp : plHas S.P r
    rotate_left
    · have HHAS := Lib.hid (show ∀ W, Below w0.heap.size w0 W → _ from fun W hW => by have := HHAS' W hW; rw [decide_eq_false hp] at this; exact this)
      have hE0 : voteE S A a r x = 4 := by unfold voteE; rw [if_neg (by rintro (q | q); exact q ha; rw [hok] at q; cases q), if_pos hp]
      exact absurd (hE0.symm.trans HEZ.out) (by decide)
    · have HHAS := Lib.hid (show ∀ W, Below w0.heap.size w0 W → _ from fun W hW => by have := HHAS' W hW; rw [decide_eq_true hp] at this; exact this)
      obtain ⟨k, rfl⟩ : ∃ k : Nat, r = k := ⟨r.toNat, by have := hp.1; omega⟩
      have hk : k < 12 := by have := hp.1; omega
      have hkI : (k : Int) < 12 := by omega
      have hop : ∀ W, Below w0.heap.size w0 W → Calls Tryz.prog 87 #[.pointer (some ⟨vy, 0, none⟩), .int .i64 k] W fun e w' => e = .returned (.bool ((S.P k).st == 1)) ∧ w' = W := fun W hW => by
       obtain ⟨B, hy, -⟩ := rr_y (hst W hW)
       exact ry_open hy hk
      have hE0 : voteE S A a k x = (if (S.P k).st ≠ 1 then 9 else if (cget S.D a (S.P k).tr).isSome = true then 5 else if (A a.toNat).1 < capB x then 6 else if (cget S.V a k).isSome = false ∧ 6 ≤ (ballots S a (S.P k).tr).length then 3 else 0) := by
       unfold voteE
       rw [if_neg (by rintro (q | q); exact q ha; rw [hok] at q; cases q), if_neg (fun q => q hp), Int.toNat_natCast]
      have ht := hi.t k hk
      have hsb := ballots_srt hs.1 a (S.P k).tr
      have hlb2 : (ballots S a (S.P k).tr).length ≤ 1000 := by
       have h1 := tbal_length S.P (S.P k).tr (rowOf S.V a)
       have h2 := row_length S.V a
       have h3 := hi.boxV.len hs.1
       unfold ballots; omega
      have hpb : placeB (ballots S a (S.P k).tr) k = (cget S.V a k).isSome := by
       unfold placeB
       have := ballots_get hs.1 a (k : Int)
       rw [Int.toNat_natCast] at this
       rw [this]
      obtain ⟨cs, hcs⟩ : ∃ cs, cs = ballots S a (S.P k).tr := ⟨_, rfl⟩
      obtain ⟨tr, htr⟩ : ∃ tr, tr = (S.P k).tr := ⟨_, rfl⟩
      obtain ⟨kk, hkk⟩ : ∃ kk, kk = kOf a (S.P k).tr := ⟨_, rfl⟩
      obtain ⟨i, hii⟩ : ∃ i, i = placeN cs (k : Int) := ⟨_, rfl⟩
      obtain ⟨fnd, hfnd⟩ : ∃ fnd, fnd = (cget S.V a k).isSome := ⟨_, rfl⟩
      obtain ⟨on, hon⟩ : ∃ on, on = (cget S.D a (S.P k).tr).isSome := ⟨_, rfl⟩
      obtain ⟨cp, hcp⟩ : ∃ cp, cp = capB x := ⟨_, rfl⟩
      obtain ⟨fr, hfr⟩ : ∃ fr, fr = (A a.toNat).1 := ⟨_, rfl⟩
      obtain ⟨n, hn⟩ : ∃ n, n = cs.length := ⟨_, rfl⟩
      rw [← hcs, ← hfnd, ← hon, ← hcp, ← hfr, ← hn] at hE0
      rw [← hcs] at hsb hlb2 hpb
      rw [← hn] at hlb2
      have hat : ∀ W, Below w0.heap.size w0 W → Calls Tryz.prog 90 #[.pointer (some ⟨vy, 0, none⟩), .int .i64 a, .int .i64 tr] W fun e w' => e = .returned (.pointer (some ⟨rb, kk * 9, none⟩)) ∧ w' = W := fun W hW => by
       obtain ⟨B, hy, -⟩ := rr_y (hst W hW)
       rw [htr, hkk]; exact ry_rec hy ha ht
      have hpl : ∀ W, Below w0.heap.size w0 W → Calls Tryz.prog 91 #[.pointer (some ⟨rb, kk * 9, none⟩), .int .i64 k] W fun e w' => e = .returned (.tuple #[.int .i64 i, .bool fnd]) ∧ Below W.heap.size W w' := fun W hW => by
       obtain ⟨B, hy, -⟩ := rr_y (hst W hW)
       have := ry_place hy (kOf_lt ha ht) (ref := k) (by rw [rcOf_at S ha ht]; show SrtK (ballots S a (S.P k).tr); rw [← hcs]; exact hsb) (by rw [rcOf_at S ha ht]; show (ballots S a (S.P k).tr).length ≤ 1000; rw [← hcs, ← hn]; exact hlb2)
       rw [rcOf_at S ha ht, show (rcAt S a (S.P k).tr).c = cs from hcs.symm, ← hii, hpb, ← hfnd, ← hkk] at this
       exact this
      have hcpc : ∀ W, Calls Tryz.prog 15 #[.agg #[.int .i64 x.k, .bool x.aye, .int .i64 x.l, .int .i64 x.a, .int .i64 x.n, .int .i64 x.s]] W fun e w' => e = .returned (.int .i64 cp) ∧ Below W.heap.size W w' := fun W => by rw [hcp]; exact ref_CapitalV x W hok
      have hfrc : ∀ W, Below w0.heap.size w0 W → Calls Tryz.prog 40 #[.pointer (some ⟨y, 0, none⟩), .int .i64 a] W fun e w' => e = .returned (.int .i64 fr) ∧ w' = W := fun W hW => by rw [hfr]; exact rr_free (hst W hW) ha
      -- the record's row
      obtain ⟨B0, hy0, hB0, hlift0⟩ := rr_y h0
      obtain ⟨v, hrc, hrd, hown⟩ := hy0.row (kOf_lt ha ht)
      rw [rcOf_at S ha ht] at hrd
      replace hrd : RdR castR w0 v cs := by rw [hcs]; exact hrd
      obtain ⟨ao, cap, rfl⟩ := hrd.lenOf
      rw [← hn] at hrd hrc hown
      rw [← hkk] at hrc
      obtain ⟨own1, own2, own3, own4, own5, own6⟩ := hy0.own
      have lvy : vy < w0.heap.size := (ryS vy pb rb S).lt (show (ryS vy pb rb S).is B0 w0 from hy0) own1
      have lpb : pb < w0.heap.size := (ryS vy pb rb S).lt (show (ryS vy pb rb S).is B0 w0 from hy0) own2
      have lrb : rb < w0.heap.size := (ryS vy pb rb S).lt (show (ryS vy pb rb S).is B0 w0 from hy0) own3
      have hown2 : ∀ b, (Value.slice ao n cap).ownBlock = some b → b < w0.heap.size ∧ b ≠ vy ∧ b ≠ pb ∧ b ≠ rb := fun b hb => ⟨(ryS vy pb rb S).lt (show (ryS vy pb rb S).is B0 w0 from hy0) (hown b hb).1, (hown b hb).2⟩
      obtain ⟨c0, -⟩ := hy0.top
      obtain ⟨-, p1, -⟩ := hy0.poll hk
      rw [← htr] at p1
      obtain ⟨v', -, -, r1, -⟩ := hy0.cells ha ht
      rw [← hkk, ← hon] at r1
      have hce : ∀ W, Below w0.heap.size w0 W → W.cell? ⟨vy, 0, none⟩ = some (.slice (some ⟨pb, 0, none⟩) 12 12) ∧ W.cell? ⟨pb, k * 7 + 1, none⟩ = some (.int .i64 tr) ∧ W.cell? ⟨rb, kk * 9 + 1, none⟩ = some (.bool on) ∧ W.cell? ⟨rb, kk * 9, none⟩ = some (.slice ao n cap) := fun W hW =>
       ⟨(World.cell?_of_block (hW.block vy lvy)).trans c0, (World.cell?_of_block (hW.block pb lpb)).trans p1, (World.cell?_of_block (hW.block rb lrb)).trans r1, (World.cell?_of_block (hW.block rb lrb)).trans hrc⟩
      have HOPs := Lib.hid hop
      have HAT := Lib.hid hat
      have HPL := Lib.hid hpl
      have HCP := Lib.hid hcpc
      have HFR := Lib.hid hfrc
      have HCE := Lib.hid hce
      have HRD := Lib.hid (And.intro hrd (And.intro hrc hown2))
      have HY0 := Lib.hid (And.intro hy0 (And.intro hB0 hlift0))
      have HLL := Lib.hid (And.intro lvy (And.intro lpb lrb))
      have HOW := Lib.hid (And.intro own4 (And.intro own5 own6))
      have HNN := Lib.hid (And.intro hcs (And.intro htr (And.intro hkk (And.intro hii (And.intro hfnd (And.intro hn (And.intro hsb hpb)))))))
      have HV := Lib.hid (And.intro hi (And.intro hs (And.intro hM (And.intro ha (And.intro hok (And.intro hk (And.intro ht (And.intro hp hcp))))))))
      have HBB := Lib.hid (And.intro hbo (And.intro hbl (And.intro hbF (And.intro hb0 h0))))
      have HLBW := Lib.hid hlb
      have hn1000 : (n : Int) ≤ 1000 := by omega
      clear hcs htr hkk hii hfnd hon hcp hfr hn hsb hlb2 hpb hat hpl hcpc hfrc hce hrd hrc hown own1 own2 own3 own4 own5 own6 lvy lpb lrb c0 p1 r1 hop ht ha hok hp hIS hVI hHAS HIS' HHAS' hst hto hlb hbo hbl hbF hb0 h0 hi hs hM hB0 hy0 hlift0 hown2 h hk
      by_cases hst : (S.P k).st = 1
      rotate_left
      · have HOP := Lib.hid (show ∀ W, Below w0.heap.size w0 W → _ from fun W hW => by have := HOPs.out W hW; rw [show ((S.P k).st == 1) = false by simp [hst]] at this; exact this)
        rw [if_pos hst] at hE0
        exact absurd (hE0.symm.trans HEZ.out) (by decide)
      · have HOP := Lib.hid (show ∀ W, Below w0.heap.size w0 W → _ from fun W hW => by have := HOPs.out W hW; rw [show ((S.P k).st == 1) = true by simp [hst]] at this; exact this)
        rw [if_neg (fun q => q hst)] at hE0
        cases on with
        | true =>
         rw [if_pos rfl] at hE0
         exact absurd (hE0.symm.trans HEZ.out) (by decide)
        | false =>
         rw [if_neg (by decide)] at hE0
         by_cases hf : fr < cp
         · rw [if_pos hf] at hE0
           exact absurd (hE0.symm.trans HEZ.out) (by decide)
         · rw [if_neg hf] at hE0
           by_cases hfull : fnd = false ∧ 6 ≤ n
           · rw [if_pos hfull] at hE0
             exact absurd (hE0.symm.trans HEZ.out) (by decide)
           · rw [if_neg hfull] at hE0
             obtain ⟨hcs, htr, hkk, hii, hfnd, hn, hsb, hpb⟩ := HNN.out
             obtain ⟨hi, hs, hM, ha, hok, hk, ht, hp, hcp⟩ := HV.out
             obtain ⟨hbo, hbl, hbF, hb0, h0⟩ := HBB.out
             obtain ⟨hy0, hB0, hlift0⟩ := HY0.out
             obtain ⟨lvy, lpb, lrb⟩ := HLL.out
             obtain ⟨own4, own5, own6⟩ := HOW.out
             obtain ⟨g, hg⟩ : ∃ g, g = gotS S a (S.P k).tr := ⟨_, rfl⟩
             obtain ⟨tt, htt⟩ : ∃ tt, tt = (S.P k).t := ⟨_, rfl⟩
             obtain ⟨Sf, hSf⟩ : ∃ Sf, Sf = voteS S A a k x := ⟨_, rfl⟩
             rw [← hSf]
             have eM : voteM S A M a k x = raiseM M a tr cp := by unfold voteM; rw [if_pos hE0, Int.toNat_natCast, htr, hcp]
             rw [eM, hE0]
             have hSf2 : Sf = { S with P := putP S.P k ((S.P k).withT (voteT S a k x)), V := cput S.V a k x } := by rw [hSf]; unfold voteS; rw [if_pos hE0]; rfl
             have hnB : ¬ B0 bx := fun q => hbF (hB0 bx q)
             have hbpb : bx ≠ pb := fun e => hnB (by rw [e]; exact hy0.own.2.1)
             have hbrb : bx ≠ rb := fun e => hnB (by rw [e]; exact hy0.own.2.2.1)
             have cg0 := hy0.got (kOf_lt ha ht)
             rw [rcOf_at S ha ht, show (rcAt S a (S.P k).tr).g = g from hg.symm, ← hkk] at cg0
             have hcap : n ≤ cap := by
              rcases HRD.out.1 with ⟨e, e0⟩ | ⟨b, off, c, e, hc, hb, -⟩
              · rw [hn, e0]; exact Nat.zero_le _
              · injection e with e1 e2 e3; rw [e3, hn]; exact hc
             have hin : i ≤ n := by rw [hii, hn]; exact placeN_le _ _
             -- the lists' lengths
             have hnk : n ≤ 1000 := by omega
             have HSK := Lib.hid (show ∀ W : World, Below w0.heap.size w0 W → (ryS vy pb rb S).to B0 w0 W from fun W hW => ry_below (ry_refl hy0) hW)
             have hRW : ∀ W : World, w0.heap.size ≤ W.heap.size → (∀ b, (Value.slice ao n cap).ownBlock = some b → W.heap[b]? = w0.heap[b]?) → RdR castR W (.slice ao n cap) cs := fun W h1 h2 => HRD.out.1.keep h1 h2
             have hWb : ∀ W : World, Below w0.heap.size w0 W → w0.heap.size ≤ W.heap.size ∧ (∀ b, (Value.slice ao n cap).ownBlock = some b → W.heap[b]? = w0.heap[b]?) ∧ W.heap[rb]? = w0.heap[rb]? ∧ W.heap[bx]? = w0.heap[bx]? := fun W hW => ⟨hW.size, fun b hb => hW.block b (HRD.out.2.2 b hb).1, hW.block rb lrb, hW.block bx hbl⟩
             have hWs : ∀ (W : World) (vs : List Value), Below w0.heap.size w0 W → w0.heap.size ≤ (W.setCells pb (k * 7 + 4) vs).heap.size ∧ (∀ b, (Value.slice ao n cap).ownBlock = some b → (W.setCells pb (k * 7 + 4) vs).heap[b]? = w0.heap[b]?) ∧ (W.setCells pb (k * 7 + 4) vs).heap[rb]? = w0.heap[rb]? ∧ (W.setCells pb (k * 7 + 4) vs).heap[bx]? = w0.heap[bx]? := fun W vs hW =>
              ⟨by rw [setCells_size]; exact hW.size, fun b hb => (setCells_off (HRD.out.2.2 b hb).2.2.1 _ _ _).trans (hW.block b (HRD.out.2.2 b hb).1), (setCells_off (fun e => own6 e.symm) _ _ _).trans (hW.block rb lrb), (setCells_off hbpb _ _ _).trans (hW.block bx hbl)⟩
             have HWB := Lib.hid hWb
             have HWS := Lib.hid hWs
             have HRW := Lib.hid hRW
             clear hWb hWs hRW
             cases fnd with
             | true =>
              obtain ⟨ye, hye⟩ : ∃ ye, cget S.V a k = some ye := Option.isSome_iff_exists.1 hfnd.symm
              have hyok : balOk ye = true := (hi.v _ (hs.1.get.1 hye)).2.2
              have hget : sget cs k = some ye := by
               have := ballots_get hs.1 a (k : Int)
               rw [Int.toNat_natCast] at this
               rw [hcs, this, hye]
              have hati := (place_get hsb ye).1 hget
              rw [← hii] at hati
              have hil : i < cs.length := (List.getElem?_eq_some_iff.1 hati).1
              have hil2 : i < n := by rw [hn]; exact hil
              have hT : voteT S a k x = (tt.sub (gainW ye g)).add (gainW x g) := by
               unfold voteT voteT0
               rw [hye, Int.toNat_natCast, ← hg, ← htt]
              obtain ⟨T1, hT1⟩ : ∃ T1, T1 = tt.sub (gainW ye g) := ⟨_, rfl⟩
              have hput := place_put x hsb (r := (k : Int))
              rw [hpb, ← hii, ← hfnd, if_pos rfl] at hput
              have hi1w : ∃ i1, i1 = i + 1 := ⟨_, rfl⟩
              obtain ⟨i1, hi1⟩ := hi1w
              rw [← hi1] at hput
              have hi1n : i1 ≤ n := by omega
              obtain ⟨P1, hP1⟩ : ∃ P1, P1 = putP S.P k ((S.P k).withT T1) := ⟨_, rfl⟩
              have hPt : ∀ j, (P1 j).tr = (S.P j).tr := fun j => by rw [hP1]; exact putP_tr (p := (S.P k).withT T1) rfl j
              have hPk : (P1 k).t = T1 := by rw [hP1, putP_same]; rfl
              have hPf : ∀ T, putP P1 k ((P1 k).withT T) = putP S.P k ((S.P k).withT T) := fun T => by rw [hP1, putP_putP, putP_same]; rfl
              have hcase : ∃ b off, ao = some ⟨b, off, none⟩ ∧ b < w0.heap.size ∧ b ≠ pb ∧ w0.rangeAt b (off + i * 7) (castR.f ((k : Int), ye)) := by
               obtain ⟨b, off, e, hr, hb⟩ := HRD.out.1.at hil
               have hcsi : cs[i] = ((k : Int), ye) := by
                rw [List.getElem?_eq_getElem hil] at hati
                injection hati
               rw [hcsi] at hr
               have e1 : (Value.slice ao n cap).ownBlock = some b := by rw [e]; rfl
               exact ⟨b, off, e, (HRD.out.2.2 b e1).1, (HRD.out.2.2 b e1).2.2.1, hr⟩
              obtain ⟨b, off, rfl, hbw, hbp, hrx⟩ := hcase
              have hw2 : wrap64 ((i : Int) + 1) = (i1 : Int) := by
               rw [hi1]
               have := (IntWalk.i64_left ((i : Int) + 1)).symm.trans (IntWalk.i64_in _ (by omega))
               rw [this]; rfl
              have HW2 := Lib.hid hw2
              clear hw2
              obtain ⟨T2, hT2⟩ : ∃ T2, T2 = T1.add (gainW x g) := ⟨_, rfl⟩
              have hSf3 : Sf = { S with V := cput S.V a k x, P := putP P1 k ((P1 k).withT T2) } := by rw [hSf2, hPf, hT2, hT1, hT]
              have L1 : ([] : List (Int × Bal)).length + (cs.take i).length ≤ 1000000 := by rw [List.length_take, ← hn]; simp; omega
              have L2 : ([] ++ cs.take i : List (Int × Bal)).length ≤ 1000000 := by rw [List.nil_append, List.length_take, ← hn]; omega
              have L3 : ([] ++ cs.take i ++ [((k : Int), x)] : List (Int × Bal)).length + (cs.drop i1).length ≤ 1000000 := by rw [List.nil_append, List.length_append, List.length_take, List.length_drop, ← hn]; simp; omega
              have HLN := Lib.hid (And.intro L1 (And.intro L2 L3))
              have hic : i ≤ cs.length := by rw [← hn]; exact hin
              have hi1c : i1 ≤ cs.length := by rw [← hn]; exact hi1n
              have HIC := Lib.hid (And.intro hic (And.intro hi1c (And.intro (Nat.le_trans hin hcap) hi1n)))
              -- what the tail wants
              have hg1 : ∀ W : World, Calls Tryz.prog 46 #[.agg #[.int .i64 x.k, .bool x.aye, .int .i64 x.l, .int .i64 x.a, .int .i64 x.n, .int .i64 x.s], .agg (wgtS.f g).toArray] W fun e w' => e = .returned (.agg (tlyS.f (gainW x g)).toArray) ∧ Below W.heap.size W w' := fun W => ref_GainV x g W hok
              have hadd : ∀ W : World, Calls Tryz.prog 45 #[.agg (tlyS.f T1).toArray, .agg (tlyS.f (gainW x g)).toArray] W fun e w' => e = .returned (.agg (tlyS.f T2).toArray) ∧ Below W.heap.size W w' := fun W => by rw [hT2]; exact ref_AddW T1 _ W
              obtain ⟨G1, hG1⟩ : ∃ z, z = gainW x g := ⟨_, rfl⟩
              rw [← hG1] at hg1 hadd
              have hlift : ∀ W, (ryS vy pb rb Sf).to B0 w0 W → (rrM y ab vy pb rb A M Sf).to F w0 W := fun W hW => hlift0 Sf W hW
              have hbxs : ∀ (m : Mem) W, m.to F w0 W → W.heap[bx]? = some (balS.obj x) := fun m W hW => (Mem.to_keeps hW hbl hbF).trans hbo
              have h23 : ∀ M' W, (rrM y ab vy pb rb A M' Sf).to F w0 W → (W.cell? ⟨pb, k * 7 + 1, none⟩ = some (.int .i64 tr) ∧ (loadSt_V (.pointer (some ⟨bx, 0, none⟩))).run Tryz.prog W = .ok (.agg #[.int .i64 x.k, .bool x.aye, .int .i64 x.l, .int .i64 x.a, .int .i64 x.n, .int .i64 x.s]) W) := fun M' W hW => by
               obtain ⟨F1, h1, -, -⟩ := Mem.next hW
               obtain ⟨B1, hy1, -, -⟩ := rr_y h1
               refine ⟨?_, HLBW.out W (hbxs _ W hW)⟩
               obtain ⟨-, p1, -⟩ := hy1.poll hk
               rw [p1, hSf2, htr]
               show some (Value.int IntKind.i64 (putP S.P k ((S.P k).withT (voteT S a k x)) k).tr) = _
               rw [putP_same]; rfl
              have hrs : ∀ W, (rrM y ab vy pb rb A M Sf).to F w0 W → Calls Tryz.prog 93 #[.pointer (some ⟨y, 0, none⟩), .int .i64 a, .int .i64 tr, .int .i64 cp] W fun e w' => e = .returned (.tuple #[]) ∧ (rrM y ab vy pb rb A (raiseM M a tr cp) Sf).to F w0 w' := fun W hW => rr_raise hW hM ha tr cp (by rw [hcp]; exact capB_nonneg hok)
              have hfin : ∀ M' W, (rrM y ab vy pb rb A M' Sf).to F w0 W → (rrM y ab vy pb rb A M' Sf).to F w W := fun M' W hW => Mem.to_later hb0 hW
              have HG1 := Lib.hid hg1
              have HADD := Lib.hid hadd
              have HLIFT := Lib.hid hlift
              have H23 := Lib.hid h23
              have HRS := Lib.hid hrs
              have HFIN := Lib.hid hfin
              -- row put in place
              have hputW : ∀ W v, (ryS vy pb rb { S with P := P1 }).to B0 w0 W → OwnR castR w0.heap.size v ([] ++ cs.take i ++ [((k : Int), x)] ++ cs.drop i1) W → (ryS vy pb rb { S with V := cput S.V a k x, P := P1 }).to B0 w0 (W.setCell ⟨rb, kk * 9, none⟩ v) := fun W v hW ho => by
               have hr := ho.reads
               rw [List.nil_append, List.append_assoc, List.singleton_append, ← hput, hcs] at hr
               have ht' : 0 ≤ (S.P (k : Int).toNat).tr ∧ (S.P (k : Int).toNat).tr < 4 := by rw [Int.toNat_natCast]; exact ht
               have e1 := ryS_putP hW hPt hs.1 ha ht' x (r := (k : Int)) (by rw [Int.toNat_natCast]; exact hr) (fun q hq => by
                have h5 := ho.block hq
                refine ⟨h5.1, h5.2, by omega, by omega, by omega⟩)
               rw [Int.toNat_natCast, ← hkk] at e1
               exact e1
              have HPUT := Lib.hid hputW
              have hCG : ∀ W : World, W.heap[rb]? = w0.heap[rb]? → (loadSt_W (.pointer (some ⟨rb, kk * 9 + 5, none⟩))).run Tryz.prog W = .ok (.agg (wgtS.f g).toArray) W := fun W hW => loadW_at (rangeAt_block cg0 hW)
              have HCG := Lib.hid hCG
              -- the last tally
              have hrow9 : ∀ W, (ryS vy pb rb { S with V := cput S.V a k x, P := P1 }).to B0 w0 W → ((loadSt_V (.pointer (some ⟨bx, 0, none⟩))).run Tryz.prog W = .ok (.agg #[.int .i64 x.k, .bool x.aye, .int .i64 x.l, .int .i64 x.a, .int .i64 x.n, .int .i64 x.s]) W ∧ (loadSt_W (.pointer (some ⟨rb, kk * 9 + 5, none⟩))).run Tryz.prog W = .ok (.agg (wgtS.f g).toArray) W) ∧ pb < W.heap.size ∧ rb < W.heap.size ∧ bx < W.heap.size ∧ W.rangeAt pb (k * 7 + 4) (tlyS.f T1) := fun W hW => by
               obtain ⟨B1, hy1, -, -⟩ := ry_next hW
               have e1 := hy1.got (kOf_lt ha ht)
               rw [rcOf_at _ ha ht, show (rcAt { S with V := cput S.V a k x, P := P1 } a (S.P k).tr).g = g from hg.symm, ← hkk] at e1
               have e2 := RyAt.tally hy1 hk
               rw [show ({ S with V := cput S.V a k x, P := P1 } : Vs).P k = P1 k from rfl, hPk] at e2
               have e3 := (Mem.to_keeps hW hbl hnB).trans hbo
               exact ⟨⟨HLBW.out W e3, loadW_at e1⟩, (ryS vy pb rb _).lt (show (ryS vy pb rb _).is B1 W from hy1) hy1.own.2.1, (ryS vy pb rb _).lt (show (ryS vy pb rb _).is B1 W from hy1) hy1.own.2.2.1, (Array.getElem?_eq_some_iff.1 e3).1, e2⟩
              have h22a : ∀ W0 W, (ryS vy pb rb { S with V := cput S.V a k x, P := P1 }).to B0 w0 W0 → Below W0.heap.size W0 W → ((loadSt_V (.pointer (some ⟨bx, 0, none⟩))).run Tryz.prog W = .ok (.agg #[.int .i64 x.k, .bool x.aye, .int .i64 x.l, .int .i64 x.a, .int .i64 x.n, .int .i64 x.s]) W ∧ (loadSt_W (.pointer (some ⟨rb, kk * 9 + 5, none⟩))).run Tryz.prog W = .ok (.agg (wgtS.f g).toArray) W ∧ (loadSt_T (.pointer (some ⟨pb, k * 7 + 4, none⟩))).run Tryz.prog W = .ok (.agg (tlyS.f T1).toArray) W) ∧ (storeT (.pointer (some ⟨pb, k * 7 + 4, none⟩)) (.agg (tlyS.f T2).toArray)).run Tryz.prog W = .ok () (W.setCells pb (k * 7 + 4) (tlyS.f T2)) ∧ (ryS vy pb rb Sf).to B0 w0 (W.setCells pb (k * 7 + 4) (tlyS.f T2)) := fun W0 W h1 hW => by
               have h2 := ry_below h1 hW
               obtain ⟨q1, q2, q3, q4, q5⟩ := hrow9 W h2
               obtain ⟨B1, hy1, -, -⟩ := ry_next h2
               have h3 := ryS_tally h2 hk T2
               refine ⟨⟨q1.1, q1.2, loadT_at q5⟩, run_storeT (RyAt.pthere hy1 hk (by omega)) T2, ?_⟩
               rw [hSf3]
               exact h3
              have H22 := Lib.hid h22a
              have h7f : ∀ W : World, W.heap[rb]? = w0.heap[rb]? → W.cell? ⟨rb, kk * 9, none⟩ = some (.slice (some ⟨b, off, none⟩) n cap) ∧ W.frozen? ⟨rb, kk * 9, none⟩ = false := fun W hW => by
               refine ⟨(World.cell?_of_block hW).trans HRD.out.2.1, ?_⟩
               have hf := (hy0.frozen (kk * 9)).2
               rw [World.frozen?] at hf ⊢
               rw [hW]; exact hf
              have H7F := Lib.hid h7f
              have hsub : ∀ W : World, Calls Tryz.prog 92 #[.agg (tlyS.f tt).toArray, .agg (tlyS.f (gainW ye g)).toArray] W fun e w' => e = .returned (.agg (tlyS.f T1).toArray) ∧ Below W.heap.size W w' := fun W => by rw [hT1]; exact ref_SubW tt _ W
              have hg2 : ∀ W : World, Calls Tryz.prog 46 #[.agg (balS.f ye).toArray, .agg (wgtS.f g).toArray] W fun e w' => e = .returned (.agg (tlyS.f (gainW ye g)).toArray) ∧ Below W.heap.size W w' := fun W => ref_GainV ye g W hyok
              obtain ⟨G2, hG2⟩ : ∃ z, z = gainW ye g := ⟨_, rfl⟩
              rw [← hG2] at hg2 hsub
              have h19 : ∀ W, Below w0.heap.size w0 W → (W.cell? ⟨rb, kk * 9, none⟩ = some (.slice (some ⟨b, off, none⟩) n cap) ∧ (loadSt_V (.pointer (some ⟨b, off + i * 7 + 1, none⟩))).run Tryz.prog W = .ok (.agg (balS.f ye).toArray) W ∧ (loadSt_W (.pointer (some ⟨rb, kk * 9 + 5, none⟩))).run Tryz.prog W = .ok (.agg (wgtS.f g).toArray) W ∧ (loadSt_T (.pointer (some ⟨pb, k * 7 + 4, none⟩))).run Tryz.prog W = .ok (.agg (tlyS.f tt).toArray) W) ∧ (storeT (.pointer (some ⟨pb, k * 7 + 4, none⟩)) (.agg (tlyS.f T1).toArray)).run Tryz.prog W = .ok () (W.setCells pb (k * 7 + 4) (tlyS.f T1)) ∧ (RyAt vy pb rb P1 (rcOf { S with P := P1 }) B0 (W.setCells pb (k * 7 + 4) (tlyS.f T1)) ∧ Only B0 (fun _ => False) w0 (W.setCells pb (k * 7 + 4) (tlyS.f T1))) := fun W hW => by
               have hy1 : RyAt vy pb rb S.P (rcOf S) B0 W := Mem.below (m := ryS vy pb rb S) hy0 hW
               have q5 := RyAt.tally hy1 hk
               rw [← htt] at q5
               have h3 : RyAt vy pb rb (putP S.P k ((S.P k).withT T1)) (rcOf S) B0 (W.setCells pb (k * 7 + 4) (tlyS.f T1)) := RyAt.setPs hy1 hk (o := 4) (by show 4 + 3 ≤ 7; omega) rfl
               have e1 := hW.block rb lrb
               have e2 := hW.block b hbw
               have lv := cast_vote (rangeAt_block hrx e2)
               refine ⟨⟨(World.cell?_of_block e1).trans HRD.out.2.1, loadV_at lv, loadW_at (rangeAt_block cg0 e1), loadT_at q5⟩, run_storeT (RyAt.pthere hy1 hk (by omega)) T1, ?_⟩
               rw [hP1]
               exact ⟨h3.congr (fun _ _ => rfl) (rec_polls S (fun i => putP_tr (p := (S.P k).withT T1) rfl i)), Mem.only_trans (Only.of_later hW) (only_setsR hy1.own.2.1) (fun j hj => .inl hj)⟩
              have H19 := Lib.hid h19
              have HG2 := Lib.hid hg2
              have HSUB := Lib.hid hsub
              have hilI : (i : Int) < (n : Int) := by omega
              have hcapI : (i : Int) ≤ (cap : Int) := by omega
              clear h19 hg2 hsub hG2 hyok hget hati hil hil2 hrx hbw hbp hye
              have HB0L := Lib.hid (show ∀ q, B0 q → q < w0.heap.size from fun q hq => (ryS vy pb rb S).lt (show (ryS vy pb rb S).is B0 w0 from hy0) hq)
              have HPL2 := Lib.hid (And.intro lpb lrb)
              have mixed : Tryz.prog.follows .mixedOrders = true := by kernel_rfl
              clear hi1 h22a hrow9 h7f hCG hputW hfin hrs h23 hbxs hlift hG1 hg1 hadd hic hi1c L1 L2 L3 hSf3 hT2 hPf hPk hPt hP1 hput hT1 hT hcap hin cg0 hbrb hbpb hnB hSf2 eM hSf htt hg own4 own5 own6 lvy lpb lrb hy0 hB0 hlift0 hbo hbl hbF hb0 h0 hi hs hM ha hok hk ht hp hcp hcs htr hkk hii hfnd hn hsb hpb hE0 hnk
              go_enter Tryz.func33, Tryz.ntmps33
              go_upto_region 1 with fail
              rw [← HW0.out, ← HBX.out]
              have L0 := L0'
              have lb0 := HLB.out _ L0.out
              clear HW0 hw0 hbx
              go_upto_region 16 with (first
               | (go_at_call 88; refine (HIS.out _).mono ?_; rintro e w' ⟨rfl, hw⟩; rw [hw]; clear hw w')
               | (go_at_call 89; refine (HVI.out _).mono ?_; rintro e w2 ⟨rfl, hb⟩; have L1 := Lib.hid (L0.out.trans (hb.mono L0.out.size)); obtain ⟨ca1, cb1, cc1, cd1⟩ := HCE.out _ L1.out; have lb1 := HLB.out _ L1.out; clear hb)
               | (go_at_call 11; refine (HHAS.out _ L1.out).mono ?_; rintro e w' ⟨rfl, hw⟩; rw [hw]; clear hw w')
               | (go_at_call 87; refine (HOP.out _ L1.out).mono ?_; rintro e w' ⟨rfl, hw⟩; rw [hw]; clear hw w')
               | (go_at_call 90; refine (HAT.out _ L1.out).mono ?_; rintro e w' ⟨rfl, hw⟩; rw [hw]; clear hw w')
               | (go_at_call 91; refine (HPL.out _ L1.out).mono ?_; rintro e w3 ⟨rfl, hb⟩; have L3 := Lib.hid (L1.out.trans (hb.mono L1.out.size)); obtain ⟨ca3, cb3, cc3, cd3⟩ := HCE.out _ L3.out; have lb3 := HLB.out _ L3.out; clear hb)
               | (go_at_call 15; refine (HCP.out _).mono ?_; rintro e w4 ⟨rfl, hb⟩; have L4 := Lib.hid (L3.out.trans (hb.mono L3.out.size)); obtain ⟨ca4, cb4, cc4, cd4⟩ := HCE.out _ L4.out; have lb4 := HLB.out _ L4.out; clear hb)
               | (go_at_call 40; refine (HFR.out _ L4.out).mono ?_; rintro e w' ⟨rfl, hw⟩; rw [hw]; clear hw w')
               | fail)
              have HB4 := Lib.hid (show Below w0.heap.size w0 (w4.alloc (.cells #[] 56)) from L4.out.alloc L4.out.size _)
              have HO4 := Lib.hid (show OwnR castR w0.heap.size (.slice (some ⟨w4.heap.size, 0, none⟩) 0 0) [] (w4.alloc (.cells #[] 56)) from OwnR.none (World.alloc_heap_new _ _) L4.out.size)
              have cd4b := (H7F.out _ (HWB.out _ HB4.out).2.2.1).1
              clear ca1 cb1 cc1 cd1 ca3 cb3 cc3 cd3 ca4 cb4 cc4 lb0 lb1 lb3 lb4
              go_upto_region 17 with (first
               | (refine wpl_noneR (r := castR) rfl rfl ?_; dsimp only [castR])
               | (refine wpl_sliceHi (r := castR) (k := i) rfl rfl rfl rfl HIC.out.2.2.1 ?_; intro u1 hu1; have HU1 := Lib.hid hu1; clear hu1)
               | (refine wpl_appsR (r := castR) (u := u1) (ys := cs.take i) rfl rfl rfl rfl HO4.out (by rw [HU1.out]; exact (HRW.out _ (HWB.out _ HB4.out).1 (HWB.out _ HB4.out).2.1).take HIC.out.1) HLN.out.1 HB4.out.size ?_; intro v2 w5 ho2 hg2 hf2; obtain ⟨a2, c2, hv2⟩ := ho2.lenOf; obtain ⟨m2, hm2⟩ : ∃ m2, m2 = ([] ++ cs.take i : List (Int × Bal)).length := ⟨_, rfl⟩; rw [← hm2] at hv2; subst hv2; clear hm2; have hb2 := HB4.out.grown hg2 HB4.out.size (fun k hk => (HO4.out.block hk).1); have HO5 := Lib.hid ho2; have HB5 := Lib.hid hb2; have lb5 := HLB.out _ hb2; clear ho2 hg2 hf2 hb2)
               | fail)
              go_upto_region 18 with (first
               | (refine wpl_appR (r := castR) (y := ((k : Int), x)) rfl rfl rfl rfl (OwnR.of HO5.out (Nat.le_refl _) (fun k hk => Below.heap_alloc _ _ _ (HO5.out.block hk).2)) (rangeAt_whole (T := 56) (by exact World.alloc_heap_new _ _)) HLN.out.2.1 (le_alloc HB5.out.size _) ?_; intro v3 w6 ho3 hg3 hf3 hn3; obtain ⟨a3, c3, hv3⟩ := ho3.lenOf; obtain ⟨m3, hm3⟩ : ∃ m3, m3 = (([] ++ cs.take i : List (Int × Bal)) ++ [((k : Int), x)]).length := ⟨_, rfl⟩; rw [← hm3] at hv3; subst hv3; clear hm3; have hb3 := Below.grown (HB5.out.alloc HB5.out.size _) hg3 (le_alloc HB5.out.size _) (fun k hk => (HO5.out.block hk).1); have HO6 := Lib.hid ho3; have HB6 := Lib.hid hb3; clear ho3 hg3 hf3 hn3 hb3)
               | fail)
              go_upto_region 19 with fail
              have B6 := Lib.hid (Below.refl w6.heap.size w6)
              have B6b := Lib.hid B6.out.drew
              have HW6 := Lib.hid (show ∀ W, Below w6.heap.size w6 W → Below w0.heap.size w0 W from fun W hW => HB6.out.trans (hW.mono HB6.out.size))
              apply wp_meetF (S := fun wc => (RyAt vy pb rb P1 (rcOf { S with P := P1 }) B0 wc ∧ Only B0 (fun _ => False) w0 wc) ∧ (w0.heap.size ≤ wc.heap.size ∧ (∀ b', (Value.slice (some ⟨b, off, none⟩) n cap).ownBlock = some b' → wc.heap[b']? = w0.heap[b']?) ∧ wc.heap[rb]? = w0.heap[rb]? ∧ wc.heap[bx]? = w0.heap[bx]?) ∧ OwnR castR w0.heap.size (.slice a3 m3 c3) ([] ++ cs.take i ++ [((k : Int), x)]) wc)
              case h =>
               refine startU (S := fun W => W.cell? ⟨rb, kk * 9, none⟩ = some (.slice (some ⟨b, off, none⟩) n cap) ∧ (loadSt_V (.pointer (some ⟨b, off + i * 7 + 1, none⟩))).run Tryz.prog W = .ok (.agg (balS.f ye).toArray) W ∧ (loadSt_W (.pointer (some ⟨rb, kk * 9 + 5, none⟩))).run Tryz.prog W = .ok (.agg (wgtS.f g).toArray) W ∧ (loadSt_T (.pointer (some ⟨pb, k * 7 + 4, none⟩))).run Tryz.prog W = .ok (.agg (tlyS.f tt).toArray) W) (L := 21) (by kernel_rfl) ?_ (fun hHeld => ?_)
               · try dsimp only
                 first | with_reducible exact (H19.out _ (HW6.out _ L62.out)).1 | with_reducible exact (H19.out _ (HW6.out _ L61.out)).1 | with_reducible exact (H19.out _ (HW6.out _ B6b.out)).1
               refine takeU (i := 0) (v := ?_) rfl (by kernel_rfl) (fun _ _ _ h => h) (Or.inl ⟨by rfl, ?_⟩) (by assumption) ?_
               rotate_left
               · (intro w' hSw; (try dsimp only at hSw); go_simp; try with_reducible rfl)
               try walk_nrm
               refine takeU (i := 1) (v := ?_) rfl (by kernel_rfl) (fun _ _ _ h => h) (Or.inl ⟨by rfl, ?_⟩) (by assumption) ?_
               rotate_left
               · (intro w' hSw; (try dsimp only at hSw); go_simp; try with_reducible rfl)
               try walk_nrm
               refine takeU (i := 2) (v := ?_) rfl (by kernel_rfl) (fun _ _ _ h => h) (Or.inl ⟨by rfl, ?_⟩) (by assumption) ?_
               rotate_left
               · (intro w' hSw; (try dsimp only at hSw); go_simp; try with_reducible rfl)
               try walk_nrm
               refine takeU (i := 3) (v := ?_) rfl (by kernel_rfl) (fun _ _ _ h => h) (Or.inl ⟨by rfl, ?_⟩) (by assumption) ?_
               rotate_left
               · (intro w' hSw; (try dsimp only at hSw); go_simp; try with_reducible rfl)
               try walk_nrm
               refine takeU (i := 4) (v := ?_) rfl (by kernel_rfl) (fun _ _ _ h => h) (Or.inl ⟨by rfl, ?_⟩) (by assumption) ?_
               rotate_left
               · (intro w' hSw; (try dsimp only at hSw); go_simp; try with_reducible rfl)
               try walk_nrm
               refine takeU (i := 5) (v := ?_) rfl (by kernel_rfl) (fun _ _ _ h => h) (Or.inl ⟨by rfl, ?_⟩) (by assumption) ?_
               rotate_left
               · (intro w' hSw; (try dsimp only at hSw); go_simp; try with_reducible rfl)
               try walk_nrm
               refine takeU (i := 6) (v := ?_) rfl (by kernel_rfl) (fun _ _ _ h => h) (Or.inl ⟨by rfl, ?_⟩) (by assumption) ?_
               rotate_left
               · (intro w' hSw; (try dsimp only at hSw); go_simp; try with_reducible rfl)
               try walk_nrm
               refine takeU (i := 7) (v := ?_) rfl (by kernel_rfl) (fun _ _ _ h => h) (Or.inl ⟨by rfl, ?_⟩) (by assumption) ?_
               rotate_left
               · (intro w' hSw; (try dsimp only at hSw); go_simp; try with_reducible rfl)
               try walk_nrm
               refine takeU (i := 8) (v := ?_) rfl (by kernel_rfl) (fun _ _ _ h => h) (Or.inl ⟨by rfl, ?_⟩) (by assumption) ?_
               rotate_left
               · (intro w' hSw; (try dsimp only at hSw); go_simp; try with_reducible rfl)
               try walk_nrm
               refine takeU (i := 9) (v := ?_) rfl (by kernel_rfl) (fun _ _ _ h => h) (Or.inl ⟨by rfl, ?_⟩) (by assumption) ?_
               rotate_left
               · (intro w' hSw; (try dsimp only at hSw); go_simp; try with_reducible rfl)
               try walk_nrm
               refine takeU (i := 10) (v := ?_) rfl (by kernel_rfl) (fun _ _ _ h => h) (Or.inl ⟨by rfl, ?_⟩) (by assumption) ?_
               rotate_left
               · (intro w' hSw; (try dsimp only at hSw); go_simp; try with_reducible rfl)
               try walk_nrm
               refine takeU (i := 11) (v := ?_) rfl (by kernel_rfl) (fun _ _ _ h => h) (Or.inl ⟨by rfl, ?_⟩) (by assumption) ?_
               rotate_left
               · (intro w' hSw; (try dsimp only at hSw); go_simp; try with_reducible rfl)
               try walk_nrm
               refine takeU (i := 12) (v := ?_) rfl (by kernel_rfl) (fun _ _ _ h => h) (Or.inl ⟨by rfl, ?_⟩) (by assumption) ?_
               rotate_left
               · (intro w' hSw; (try dsimp only at hSw); go_simp; try with_reducible rfl)
               try walk_nrm
               refine takeU (i := 13) (v := ?_) rfl (by kernel_rfl) (fun _ _ _ h => h) (Or.inl ⟨by rfl, ?_⟩) (by assumption) ?_
               rotate_left
               · (intro w' hSw; (try dsimp only at hSw); go_simp; try with_reducible rfl)
               try walk_nrm
               refine takeU (i := 14) (v := ?_) rfl (by kernel_rfl) (fun _ _ _ h => h) (Or.inl ⟨by rfl, ?_⟩) (by assumption) ?_
               rotate_left
               · (intro w' hSw; (try dsimp only at hSw); go_simp; try with_reducible rfl)
               try walk_nrm
               refine takeU (i := 15) (v := ?_) rfl (by kernel_rfl) (fun _ _ _ h => h) (Or.inl ⟨by rfl, ?_⟩) (by assumption) ?_
               rotate_left
               · (intro w' hSw; (try dsimp only at hSw); go_simp; try with_reducible rfl)
               try walk_nrm
               refine takeU (i := 16) (v := ?_) rfl (by kernel_rfl) (fun _ _ _ h => h) (Or.inl ⟨by rfl, ?_⟩) (by assumption) ?_
               rotate_left
               · (intro w' hSw; (try dsimp only at hSw); go_simp; try with_reducible rfl)
               try walk_nrm
               refine readyU (rs := [17]) (by kernel_rfl) (by simp) ?_
               refine AllReadyU.cons rfl (fun K hK => ?_) AllReadyU.nil
               simp only [List.getElem_toArray, List.getElem_cons_zero, List.getElem_cons_succ]
               go_simp
               go_at_call 46; with_reducible refine (HG2.out _).mono ?_; rintro e w61 ⟨rfl, hb⟩; have L61 := Lib.hid (B6b.out.trans (hb.mono B6b.out.size)); clear hb
               first | refine hK.out _ _ ?_ (fun hHeld => ?_) | (go_wp2_with fail; refine hK.out _ _ ?_ (fun hHeld => ?_))
               · try dsimp only
                 first | with_reducible exact (H19.out _ (HW6.out _ L62.out)).1 | with_reducible exact (H19.out _ (HW6.out _ L61.out)).1 | with_reducible exact (H19.out _ (HW6.out _ B6b.out)).1
               clear hK K
               try walk_nrm
               refine readyU (rs := [18]) (by kernel_rfl) (by simp) ?_
               refine AllReadyU.cons rfl (fun K hK => ?_) AllReadyU.nil
               simp only [List.getElem_toArray, List.getElem_cons_zero, List.getElem_cons_succ]
               go_simp
               go_at_call 92; with_reducible refine (HSUB.out _).mono ?_; rintro e w62 ⟨rfl, hb⟩; have L62 := Lib.hid (L61.out.trans (hb.mono L61.out.size)); have ts62 := (H19.out _ (HW6.out _ L62.out)).2.1; clear hb
               first | refine hK.out _ _ ?_ (fun hHeld => ?_) | (go_wp2_with fail; refine hK.out _ _ ?_ (fun hHeld => ?_))
               · try dsimp only
                 first | with_reducible exact (H19.out _ (HW6.out _ L62.out)).1 | with_reducible exact (H19.out _ (HW6.out _ L61.out)).1 | with_reducible exact (H19.out _ (HW6.out _ B6b.out)).1
               clear hK K
               try walk_nrm
               refine takeU (i := 19) (v := ?_) rfl (by kernel_rfl) (fun _ _ _ h => h) (Or.inl ⟨by rfl, ?_⟩) (by assumption) ?_
               rotate_left
               · (intro w' hSw; (try dsimp only at hSw); go_simp; try with_reducible rfl)
               try walk_nrm
               refine takeU (i := 20) (v := ?_) rfl (by kernel_rfl) (fun _ _ _ h => h) (Or.inl ⟨by rfl, ?_⟩) (by assumption) ?_
               rotate_left
               · (intro w' hSw; (try dsimp only at hSw); go_simp; try with_reducible rfl)
               try walk_nrm
               refine readyU (rs := [21]) (by kernel_rfl) (by simp) ?_
               refine AllReadyU.last rfl (fun K hK => ?_)
               simp only [List.getElem_toArray, List.getElem_cons_zero, List.getElem_cons_succ]
               go_simp
               first | refine hK.out _ _ ?_ | (go_wp2_with fail; refine hK.out _ _ ?_)
               clear hK K
               try walk_nrm
               refine doneU (by kernel_rfl) ?_ _
               have hs7 := (H19.out _ (HW6.out _ L62.out)).2.2
               have hkb := HWS.out w62 (tlyS.f T1) (HW6.out _ L62.out)
               exact ⟨rfl, hs7, hkb, HO6.out.of (Nat.le_refl _) (fun q hq => (setCells_off (fun e => by have := (HO6.out.block hq).1; have := HPL2.out.1; omega) _ _ _).trans (L62.out.block q (HO6.out.block hq).2))⟩
              case hK =>
               rintro w7 ⟨hs7, hkb, ho7⟩
               have HS7 := Lib.hid hs7
               have HKB := Lib.hid hkb
               have HO7 := Lib.hid ho7
               clear hs7 hkb ho7
               first | clear hIS | skip
               first | clear L0' | skip
               first | clear HBX | skip
               first | clear HLB | skip
               first | clear HTO | skip
               first | clear HIS | skip
               first | clear HVI | skip
               first | clear HHAS | skip
               first | clear hkI | skip
               first | clear HOPs | skip
               first | clear HAT | skip
               first | clear HFR | skip
               first | clear HLL | skip
               first | clear HOW | skip
               first | clear HV | skip
               first | clear HBB | skip
               first | clear hn1000 | skip
               first | clear hst | skip
               first | clear HOP | skip
               first | clear HCE | skip
               first | clear HSK | skip
               first | clear HWB | skip
               first | clear HWS | skip
               first | clear HPL | skip
               first | clear HNN | skip
               first | clear L0 | skip
               first | clear hf | skip
               first | clear hfull | skip
               first | clear L1 | skip
               first | clear L3 | skip
               first | clear L4 | skip
               first | clear cd4 | skip
               first | clear HB4 | skip
               first | clear HO4 | skip
               first | clear cd4b | skip
               first | clear HU1 | skip
               first | clear HO5 | skip
               first | clear HB5 | skip
               first | clear lb5 | skip
               first | clear HB6 | skip
               first | clear HO6 | skip
               first | clear lb4 | skip
               first | clear ca4 | skip
               first | clear cb4 | skip
               first | clear cc4 | skip
               have HK7 := Lib.hid (H7F.out _ HKB.out.2.2.1)
               have cd7 := HK7.out.1
               go_upto_region 22 with (first
                | (refine wpl_sliceLo (r := castR) (k := i1) rfl rfl rfl rfl (by first | rfl | assumption | omega) (HIC.out.2.2.2) ?_; intro u4 hu4; have HU4 := Lib.hid hu4; clear hu4)
                | (refine wpl_appsR (r := castR) (u := u4) (ys := cs.drop i1) rfl rfl rfl rfl HO7.out (by rw [HU4.out]; exact (HRW.out _ HKB.out.1 HKB.out.2.1).drop HIC.out.2.1) HLN.out.2.2 HKB.out.1 ?_; intro v4 w8 ho4 hg4 hf4; obtain ⟨a4, c4, hv4⟩ := ho4.lenOf; obtain ⟨m4, hm4⟩ : ∃ m4, m4 = (([] ++ cs.take i ++ [((k : Int), x)] : List (Int × Bal)) ++ cs.drop i1).length := ⟨_, rfl⟩; rw [← hm4] at hv4; subst hv4; clear hm4; have hs8 := rx_grown HS7.out hg4 HB0L.out (fun q hq => (HO7.out.block hq).1) HKB.out.1; have HS8 := Lib.hid hs8; have hk8 := H7F.out w8 ((hg4.block rb (Nat.lt_of_lt_of_le HPL2.out.2 HKB.out.1) (fun e => by have := (HO7.out.block e.symm).1; have := HPL2.out.2; omega)).trans HKB.out.2.2.1); obtain ⟨cd8, fd8⟩ := hk8; have HO8 := Lib.hid ho4; clear ho4 hg4 hf4 hs8)
                | fail)
               have hs9 := HPUT.out _ _ HS8.out HO8.out
               obtain ⟨w9, hw9⟩ : ∃ w9, w9 = w8.setCell ⟨rb, kk * 9, none⟩ (.slice a4 m4 c4) := ⟨_, rfl⟩
               rw [← hw9]
               rw [← hw9] at hs9
               have HS9 := Lib.hid hs9
               clear hs9 hw9 cd8 fd8 cd7
               have B9 := Lib.hid (Below.refl w9.heap.size w9)
               have B9b := Lib.hid B9.out.drew
               first | clear HRD | skip
               first | clear HY0 | skip
               first | clear HRW | skip
               first | clear HLN | skip
               first | clear hi1n | skip
               first | clear HIC | skip
               first | clear HPUT | skip
               first | clear HCG | skip
               first | clear H7F | skip
               first | clear H7S | skip
               first | clear HI1 | skip
               first | clear HB0L | skip
               first | clear HPL2 | skip
               first | clear hfullI | skip
               first | clear HS7 | skip
               first | clear HKB | skip
               first | clear HO7 | skip
               first | clear HK7 | skip
               first | clear HU4 | skip
               first | clear HS8 | skip
               first | clear HO8 | skip
               first | clear HLBW | skip
               first | clear hilI | skip
               first | clear hcapI | skip
               apply wp_meetF (S := fun wc => (rrM y ab vy pb rb A M Sf).to F w0 wc)
               case h =>
                refine startU (S := fun W => (loadSt_V (.pointer (some ⟨bx, 0, none⟩))).run Tryz.prog W = .ok (.agg #[.int .i64 x.k, .bool x.aye, .int .i64 x.l, .int .i64 x.a, .int .i64 x.n, .int .i64 x.s]) W ∧ (loadSt_W (.pointer (some ⟨rb, kk * 9 + 5, none⟩))).run Tryz.prog W = .ok (.agg (wgtS.f g).toArray) W ∧ (loadSt_T (.pointer (some ⟨pb, k * 7 + 4, none⟩))).run Tryz.prog W = .ok (.agg (tlyS.f T1).toArray) W) (L := 14) (by kernel_rfl) ?_ (fun hHeld => ?_)
                · try dsimp only
                  first | with_reducible exact (H22.out _ _ HS9.out L11.out).1 | with_reducible exact (H22.out _ _ HS9.out L10.out).1 | with_reducible exact (H22.out _ _ HS9.out B9b.out).1
                refine takeU (i := 0) (v := ?_) rfl (by kernel_rfl) (fun _ _ _ h => h) (Or.inl ⟨by rfl, ?_⟩) (by assumption) ?_
                rotate_left
                · (intro w' hSw; (try dsimp only at hSw); go_simp; try with_reducible rfl)
                try walk_nrm
                refine takeU (i := 1) (v := ?_) rfl (by kernel_rfl) (fun _ _ _ h => h) (Or.inl ⟨by rfl, ?_⟩) (by assumption) ?_
                rotate_left
                · (intro w' hSw; (try dsimp only at hSw); go_simp; try with_reducible rfl)
                try walk_nrm
                refine takeU (i := 2) (v := ?_) rfl (by kernel_rfl) (fun _ _ _ h => h) (Or.inl ⟨by rfl, ?_⟩) (by assumption) ?_
                rotate_left
                · (intro w' hSw; (try dsimp only at hSw); go_simp; try with_reducible rfl)
                try walk_nrm
                refine takeU (i := 3) (v := ?_) rfl (by kernel_rfl) (fun _ _ _ h => h) (Or.inl ⟨by rfl, ?_⟩) (by assumption) ?_
                rotate_left
                · (intro w' hSw; (try dsimp only at hSw); go_simp; try with_reducible rfl)
                try walk_nrm
                refine takeU (i := 4) (v := ?_) rfl (by kernel_rfl) (fun _ _ _ h => h) (Or.inl ⟨by rfl, ?_⟩) (by assumption) ?_
                rotate_left
                · (intro w' hSw; (try dsimp only at hSw); go_simp; try with_reducible rfl)
                try walk_nrm
                refine takeU (i := 5) (v := ?_) rfl (by kernel_rfl) (fun _ _ _ h => h) (Or.inl ⟨by rfl, ?_⟩) (by assumption) ?_
                rotate_left
                · (intro w' hSw; (try dsimp only at hSw); go_simp; try with_reducible rfl)
                try walk_nrm
                refine takeU (i := 6) (v := ?_) rfl (by kernel_rfl) (fun _ _ _ h => h) (Or.inl ⟨by rfl, ?_⟩) (by assumption) ?_
                rotate_left
                · (intro w' hSw; (try dsimp only at hSw); go_simp; try with_reducible rfl)
                try walk_nrm
                refine takeU (i := 7) (v := ?_) rfl (by kernel_rfl) (fun _ _ _ h => h) (Or.inl ⟨by rfl, ?_⟩) (by assumption) ?_
                rotate_left
                · (intro w' hSw; (try dsimp only at hSw); go_simp; try with_reducible rfl)
                try walk_nrm
                refine takeU (i := 8) (v := ?_) rfl (by kernel_rfl) (fun _ _ _ h => h) (Or.inl ⟨by rfl, ?_⟩) (by assumption) ?_
                rotate_left
                · (intro w' hSw; (try dsimp only at hSw); go_simp; try with_reducible rfl)
                try walk_nrm
                refine takeU (i := 9) (v := ?_) rfl (by kernel_rfl) (fun _ _ _ h => h) (Or.inl ⟨by rfl, ?_⟩) (by assumption) ?_
                rotate_left
                · (intro w' hSw; (try dsimp only at hSw); go_simp; try with_reducible rfl)
                try walk_nrm
                refine readyU (rs := [10]) (by kernel_rfl) (by simp) ?_
                refine AllReadyU.cons rfl (fun K hK => ?_) AllReadyU.nil
                simp only [List.getElem_toArray, List.getElem_cons_zero, List.getElem_cons_succ]
                go_simp
                go_at_call 46; with_reducible refine (HG1.out _).mono ?_; rintro e w10 ⟨rfl, hb⟩; have L10 := Lib.hid (B9b.out.trans (hb.mono B9b.out.size)); clear hb
                first | refine hK.out _ _ ?_ (fun hHeld => ?_) | (go_wp2_with fail; refine hK.out _ _ ?_ (fun hHeld => ?_))
                · try dsimp only
                  first | with_reducible exact (H22.out _ _ HS9.out L11.out).1 | with_reducible exact (H22.out _ _ HS9.out L10.out).1 | with_reducible exact (H22.out _ _ HS9.out B9b.out).1
                clear hK K
                try walk_nrm
                refine readyU (rs := [11]) (by kernel_rfl) (by simp) ?_
                refine AllReadyU.cons rfl (fun K hK => ?_) AllReadyU.nil
                simp only [List.getElem_toArray, List.getElem_cons_zero, List.getElem_cons_succ]
                go_simp
                go_at_call 45; with_reducible refine (HADD.out _).mono ?_; rintro e w11 ⟨rfl, hb⟩; have L11 := Lib.hid (L10.out.trans (hb.mono L10.out.size)); have ts11 := (H22.out _ _ HS9.out L11.out).2.1; clear hb
                first | refine hK.out _ _ ?_ (fun hHeld => ?_) | (go_wp2_with fail; refine hK.out _ _ ?_ (fun hHeld => ?_))
                · try dsimp only
                  first | with_reducible exact (H22.out _ _ HS9.out L11.out).1 | with_reducible exact (H22.out _ _ HS9.out L10.out).1 | with_reducible exact (H22.out _ _ HS9.out B9b.out).1
                clear hK K
                try walk_nrm
                refine takeU (i := 12) (v := ?_) rfl (by kernel_rfl) (fun _ _ _ h => h) (Or.inl ⟨by rfl, ?_⟩) (by assumption) ?_
                rotate_left
                · (intro w' hSw; (try dsimp only at hSw); go_simp; try with_reducible rfl)
                try walk_nrm
                refine takeU (i := 13) (v := ?_) rfl (by kernel_rfl) (fun _ _ _ h => h) (Or.inl ⟨by rfl, ?_⟩) (by assumption) ?_
                rotate_left
                · (intro w' hSw; (try dsimp only at hSw); go_simp; try with_reducible rfl)
                try walk_nrm
                refine readyU (rs := [14]) (by kernel_rfl) (by simp) ?_
                refine AllReadyU.last rfl (fun K hK => ?_)
                simp only [List.getElem_toArray, List.getElem_cons_zero, List.getElem_cons_succ]
                go_simp
                first | refine hK.out _ _ ?_ | (go_wp2_with fail; refine hK.out _ _ ?_)
                clear hK K
                try walk_nrm
                refine doneU (by kernel_rfl) ?_ _
                exact ⟨rfl, HLIFT.out _ (H22.out _ _ HS9.out L11.out).2.2⟩
               case hK =>
                rintro w12 h12
                have H12 := Lib.hid h12
                have H12d := Lib.hid (Mem.to_then_below h12 (Below.refl _ w12).drew)
                clear h12
                first | clear HG1 | skip
                first | clear HADD | skip
                first | clear HLIFT | skip
                first | clear H22 | skip
                first | clear HS9 | skip
                first | clear B9 | skip
                first | clear B9b | skip
                go_upto_region 23 with fail
                first
                 | go_region_held3 (fun W => W.cell? ⟨pb, k * 7 + 1, none⟩ = some (.int .i64 tr) ∧ (loadSt_V (.pointer (some ⟨bx, 0, none⟩))).run Tryz.prog W = .ok (.agg #[.int .i64 x.k, .bool x.aye, .int .i64 x.l, .int .i64 x.a, .int .i64 x.n, .int .i64 x.s]) W) (first | with_reducible exact H23.out _ _ H12.out | with_reducible exact H23.out _ _ H12d.out | with_reducible exact H23.out _ _ H13.out | with_reducible exact H23.out _ _ H14.out) (first
                  | (go_at_call 15; with_reducible refine (HCP.out _).mono ?_; rintro e w13 ⟨rfl, hb⟩; have H13 := Lib.hid (Mem.to_then_below H12d.out hb); clear hb)
                  | (go_at_call 93; with_reducible refine (HRS.out _ H13.out).mono ?_; rintro e w14 ⟨rfl, h⟩; have H14 := Lib.hid h; clear h)
                  | fail)
                 | fail
                go_wp2_with fail
                exact bodyPost_ret (v := .int .i64 0) (by simp [results, Tryz.results33, go_sem]) rfl ⟨rfl, HFIN.out _ _ H14.out⟩
             | false =>
              exact absurd (hfnd.trans HCASE.out) (by decide)
end
end Go.Proofs.YtbpemdihoabbcaaGreat
