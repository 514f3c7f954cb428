/-
  Joined texts.
-/
import Derived.Test.YtbpemdihoabbcaaGreatUA
import Derived.Test.YtbpemdihoabbcaaGreatMhl
import Derived.Conc.WalkWords
namespace Go.Proofs.YtbpemdihoabbcaaGreat
set_option linter.unusedVariables false
set_option linter.unusedSimpArgs false
set_option maxRecDepth 100000
set_option maxHeartbeats 8000000
section
open Go.RowKit Go.Maps
def loadPo (v : Value) : Sem Value := Instr.loadAt 43 v
theorem loadPo_hide (v : Value) : Instr.loadAt 43 v = loadPo v := rfl
theorem poInfo : (Tryz.prog.info? 43).map (·.size) = some 7 := by kernel_rfl
theorem run_loadPo {w : World} {b k : Nat} {p : Pl} (h : w.rangeAt b k (poL p)) : (loadPo (.pointer (some ⟨b, k, none⟩))).run Tryz.prog w = .ok (.agg (poL p).toArray) w :=
 run_loadAt_mid w b k 43 (poL p) _ h Tryz.underlying43 rfl poInfo
def buildNoneK : Sem Value := Instr.buildSlice 51 0 #[]
theorem buildSlice_noneK : Instr.buildSlice 51 0 #[] = buildNoneK := rfl
theorem run_buildNoneK (w : World) : buildNoneK.run Tryz.prog w = .ok (.slice (some ⟨w.heap.size, 0, none⟩) 0 0) (w.alloc (.cells #[] 56)) := run_noneR (r := castR) w
section
variable {vy pb rb : Nat} {S S' : Vs} {F : FP} {w w' W : World}
theorem RyAt.prange {P : Nat → Pl} {R : Nat → Rc} (h : RyAt vy pb rb P R F w) {k : Nat} (hk : k < 12) : w.rangeAt pb (k * 7) (poL (P k)) := fun j u hj => h.pcell hk hj
theorem ryS_delV (h : (ryS vy pb rb S).to F w W) (hs : SrtC S.V) {a r : Int} (ha : isAcc a) (ht : 0 ≤ (S.P r.toNat).tr ∧ (S.P r.toNat).tr < 4) {v : Value} (hr : RdR castR W v (sdel (ballots S a (S.P r.toNat).tr) r)) (hv : ∀ b, v.ownBlock = some b → w.heap.size ≤ b ∧ b < W.heap.size ∧ b ≠ vy ∧ b ≠ pb ∧ b ≠ rb) : (ryS vy pb rb { S with V := cdel S.V a r }).to F w (W.setCell ⟨rb, kOf a (S.P r.toNat).tr * 9, none⟩ v) :=
 ry_congr (ry_setC h (kOf_lt ha ht) hr hv) (fun k _ => rfl) (rec_unvote hs ha ht (fun _ => rfl))
theorem ryS_tally (h : (ryS vy pb rb S).to F w W) {k : Nat} (hk : k < 12) (t : Tl) : (ryS vy pb rb { S with P := putP S.P k ((S.P k).withT t) }).to F w (W.setCells pb (k * 7 + 4) (tlyS.f t)) :=
 ry_congr (ry_setPs h (o := 4) hk (vs := tlyS.f t) (by show 4 + 3 ≤ 7; omega) rfl) (fun _ _ => rfl) (rec_polls S (fun i => putP_tr (p := (S.P k).withT t) rfl i))
theorem unvoteE_has {S : Vs} {a r : Int} (ha : isAcc a) (hp : plHas S.P r) {x : Bal} (hx : cget S.V a r = some x) : unvoteE S a r = 0 := by
 unfold unvoteE
 rw [if_neg (fun q => q ha), if_neg (by rintro (q | q); exact q hp; rw [hx] at q; cases q)]
theorem unvoteS_eq {S : Vs} {a r now : Int} (ha : isAcc a) (hp : plHas S.P r) {x : Bal} (hx : cget S.V a r = some x) : unvoteS S a r now =
 (if (S.P r.toNat).st = 1 then { S with V := cdel S.V a r, P := putP S.P r.toNat ((S.P r.toNat).withT ((S.P r.toNat).t.sub (gainW x (gotS S a (S.P r.toNat).tr)))) }
  else if wonB (S.P r.toNat).st x = true then { S with V := cdel S.V a r, Q := joinQ S.Q a (S.P r.toNat).tr (wrap64 ((S.P r.toNat).en + periodI x.l 8)) x.a now }
  else { S with V := cdel S.V a r }) := by
 unfold unvoteS
 rw [if_pos (unvoteE_has ha hp hx), hx]
 rfl
theorem bal_level {x : Bal} (h : balOk x = true) : 0 ≤ x.l ∧ x.l ≤ 6 := by
 obtain ⟨k, aye, l, a, n, s⟩ := x
 simp only [balOk, voteB, Bool.and_eq_true] at h
 obtain ⟨⟨⟨⟨h0, -⟩, -⟩, -⟩, -⟩ := h
 by_cases k1 : k = 1
 · subst k1
   simp only [shapedB, if_true, Bool.and_eq_true] at h0
   exact withinB_out h0.1.1
 · by_cases k2 : k = 2
   · subst k2; simp [shapedB] at h0; have : l = 0 := by simp_all
     exact ⟨by show 0 ≤ l; omega, by show l ≤ 6; omega⟩
   · by_cases k3 : k = 3
     · subst k3; simp [shapedB] at h0; have : l = 0 := by simp_all
       exact ⟨by show 0 ≤ l; omega, by show l ≤ 6; omega⟩
     · simp [shapedB, k1, k2, k3] at h0
attribute [local go_sem ↓] loadSt_V_hide loadSt_W_hide loadSt_T_hide storeT_hide loadPo_hide buildSlice_noneK in
theorem ryS_Unvote (h : RyAt vy pb rb S.P (rcOf S) F w) (hi : VInv S) (hs : SrtS S) (a r now : Int) : Calls Tryz.prog 34 #[.pointer (some ⟨vy, 0, none⟩), .int .i64 a, .int .i64 r, .int .i64 now] w fun e w' => e = .returned (.int .i64 (unvoteE S a r)) ∧ (ryS vy pb rb (unvoteS S a r now)).to F w w' := by
 have HH := Lib.hid h
 have hIs := ref6_Is a w
 by_cases ha : isAcc a
 · rw [decide_eq_true (show 0 ≤ a ∧ a < 10 from ha)] at hIs
   have hHas := ry_Has h r
   by_cases hp : plHas S.P r
   · rw [decide_eq_true hp] at hHas
     obtain ⟨k, rfl⟩ : ∃ k : Nat, r = k := ⟨r.toNat, by have := hp.1; omega⟩
     have hk : k < 12 := by have := hp.1; omega
     have ht := hi.t k hk
     have ht' : 0 ≤ (S.P (k : Int).toNat).tr ∧ (S.P (k : Int).toNat).tr < 4 := by rw [Int.toNat_natCast]; exact ht
     have hsb := ballots_srt hs.1 a (S.P k).tr
     have hlb : (ballots S a (S.P k).tr).length ≤ 1000 := by
      have h1 := tbal_length S.P (S.P k).tr (rowOf S.V a)
      have h2 := row_length S.V a
      have h3 := hi.boxV.len hs.1
      unfold ballots; omega
     have hat := ry_rec h ha ht
     have hpl := ry_place h (kOf_lt ha ht) (ref := k) (by rw [rcOf_at S ha ht]; exact hsb) (by rw [rcOf_at S ha ht]; exact hlb)
     rw [rcOf_at S ha ht] at hpl
     obtain ⟨c0, c1⟩ := h.top
     obtain ⟨p0, p1, p2, p3, -⟩ := h.poll hk
     have hpb : placeB (ballots S a (S.P k).tr) k = (cget S.V a k).isSome := by
      unfold placeB
      have := ballots_get hs.1 a (k : Int)
      rw [Int.toNat_natCast] at this
      rw [this]
     have hpl2 : Calls Tryz.prog 91 #[.pointer (some ⟨rb, kOf a (S.P k).tr * 9, none⟩), .int .i64 k] w fun e w' => e = .returned (.tuple #[.int .i64 (placeN (ballots S a (S.P k).tr) k), .bool (cget S.V a k).isSome]) ∧ Below w.heap.size w w' := by rw [← hpb]; exact hpl
     have hkI : (k : Int) < 12 := by omega
     cases hx : cget S.V a k with
     | none =>
      have eE : unvoteE S a k = 4 := by unfold unvoteE; rw [if_neg (fun q => q ha), if_pos (.inr (by rw [hx]; rfl))]
      have eS : unvoteS S a k now = S := by unfold unvoteS; rw [if_neg (by rw [eE]; decide)]
      rw [eS, eE]
      rw [hx] at hpl2
      obtain ⟨kk, hkk⟩ : ∃ kk, kk = kOf a (S.P k).tr := ⟨_, rfl⟩
      rw [← hkk] at hat hpl2
      obtain ⟨i, hii⟩ : ∃ i, i = placeN (ballots S a (S.P k).tr) k := ⟨_, rfl⟩
      rw [← hii] at hpl2
      obtain ⟨tr, htr⟩ : ∃ tr, tr = (S.P k).tr := ⟨_, rfl⟩
      rw [← htr] at hat p1
      dsimp only [Option.isSome] at hpl2
      have HIS := Lib.hid hIs
      have HHAS := Lib.hid hHas
      have HAT := Lib.hid hat
      have HPL := Lib.hid hpl2
      clear hIs hHas hat hpl hpl2 hpb hii hkk htr hx eE eS hsb hlb ht ht' hp ha h hi hs p0 p2 p3 c1
      go_enter Tryz.func34, Tryz.ntmps34
      go_wp2_with (first
       | (go_at_call 88; refine HIS.out.mono ?_; rintro e w' ⟨rfl, hw⟩; rw [hw]; clear hw w')
       | (go_at_call 11; refine HHAS.out.mono ?_; rintro e w' ⟨rfl, hw⟩; rw [hw]; clear hw w')
       | (go_at_call 90; refine HAT.out.mono ?_; rintro e w' ⟨rfl, hw⟩; rw [hw]; clear hw w')
       | (go_at_call 91; refine HPL.out.mono ?_; rintro e w1 ⟨rfl, hb⟩; have HB1 := Lib.hid hb; clear hb)
       | fail)
      exact bodyPost_ret (v := .int .i64 4) (by simp [results, Tryz.results34, go_sem]) rfl ⟨rfl, ry_below (ry_refl HH.out) HB1.out⟩
     | some x =>
      obtain ⟨Sf, hSf⟩ : ∃ Sf, Sf = unvoteS S a k now := ⟨_, rfl⟩
      rw [← hSf, unvoteE_has ha hp hx]
      rw [unvoteS_eq ha hp hx, Int.toNat_natCast] at hSf
      have HSF := Lib.hid hSf
      clear hSf
      rw [hx] at hpl2
      dsimp only [Option.isSome] at hpl2
      obtain ⟨cs, hcs⟩ : ∃ cs, cs = ballots S a (S.P k).tr := ⟨_, rfl⟩
      have hxok : balOk x = true := (hi.v _ (hs.1.get.1 hx)).2.2
      have hget : sget cs k = some x := by
       have := ballots_get hs.1 a (k : Int)
       rw [Int.toNat_natCast] at this
       rw [hcs, this, hx]
      rw [← hcs] at hpl2 hsb hlb
      have hati := (place_get hsb x).1 hget
      have hdl := place_del hsb (r := (k : Int)) (by unfold placeB; rw [hget]; rfl)
      obtain ⟨i, hii⟩ : ∃ i, i = placeN cs k := ⟨_, rfl⟩
      rw [← hii] at hpl2 hati hdl
      have hil : i < cs.length := (List.getElem?_eq_some_iff.1 hati).1
      obtain ⟨v, hrc, hrd, hown⟩ := h.row (kOf_lt ha ht)
      rw [rcOf_at S ha ht] at hrd
      replace hrd : RdR castR w v cs := by rw [hcs]; exact hrd
      have hvcase : ∃ b off cap, v = .slice (some ⟨b, off, none⟩) cs.length cap ∧ cs.length ≤ cap ∧ b < w.heap.size := by
       rcases hrd with ⟨e, e0⟩ | ⟨b, off, cap, e, hc, hb, -⟩
       · rw [e0] at hil; simp at hil
       · exact ⟨b, off, cap, e, hc, hb⟩
      obtain ⟨b, off, cap, rfl, hcap, hbw⟩ := hvcase
      obtain ⟨n, hn⟩ : ∃ n, n = cs.length := ⟨_, rfl⟩
      rw [← hn] at hil hcap hlb hrd hrc
      have hown' := hown b rfl
      obtain ⟨kk, hkk⟩ : ∃ kk, kk = kOf a (S.P k).tr := ⟨_, rfl⟩
      rw [← hkk] at hat hpl2 hrc
      obtain ⟨tr, htr⟩ : ∃ tr, tr = (S.P k).tr := ⟨_, rfl⟩
      rw [← htr] at hat p1
      obtain ⟨b', off', e', hrx, -⟩ := hrd.at (show i < cs.length by omega)
      injection e' with e'
      injection e' with e1 e2
      subst e1 e2
      have hcsi : cs[i]'(by omega) = ((k : Int), x) := by
       have := hati
       rw [List.getElem?_eq_getElem (by omega)] at this
       injection this
      rw [hcsi] at hrx
      have hi2 : i + 1 ≤ n := hil
      have hi3 : i + 1 ≠ 0 := Nat.succ_ne_zero i
      have hw1 : IntKind.i64.wrap ((i : Int) + 1) = ((i + 1 : Nat) : Int) := by
       clear hrx hati hdl hcsi hget hpl hpb hat hHas hIs hxok
       rw [IntWalk.i64_in _ (by omega)]; rfl
      obtain ⟨i1, hi1⟩ : ∃ i1, i1 = i + 1 := ⟨_, rfl⟩
      rw [← hi1] at hi2 hi3
      rw [← hi1] at hw1 hdl
      have hw2 : wrap64 ((i : Int) + 1) = (i1 : Int) := (IntWalk.i64_left _).symm.trans hw1
      have hi1n : i1 ≤ n := hi2
      have hi10 : i1 ≠ 0 := hi3
      obtain ⟨own1, own2, own3, own4, own5, own6⟩ := h.own
      have lvy : vy < w.heap.size := (ryS vy pb rb S).lt (show (ryS vy pb rb S).is F w from h) own1
      have lpb : pb < w.heap.size := (ryS vy pb rb S).lt (show (ryS vy pb rb S).is F w from h) own2
      have lrb : rb < w.heap.size := (ryS vy pb rb S).lt (show (ryS vy pb rb S).is F w from h) own3
      have HO := Lib.hid (And.intro hown' (And.intro own2 (And.intro own3 (And.intro own4 (And.intro own5 own6)))))
      have HL3 := Lib.hid (And.intro lvy (And.intro lpb (And.intro lrb hbw)))
      have HN := Lib.hid (And.intro hn (And.intro hcs (And.intro hdl (And.intro htr hkk))))
      have HV := Lib.hid (And.intro hi (And.intro hs (And.intro ha (And.intro ht hxok))))
      have HK := Lib.hid hk
      have HRD := Lib.hid (And.intro hrd (And.intro hrc hrx))
      have HIS := Lib.hid hIs
      have HHAS := Lib.hid hHas
      have HAT := Lib.hid hat
      have HPL := Lib.hid hpl2
      have hilI : (i : Int) < (n : Int) := by clear hw1 hw2; omega
      have hkc : (i : Int) ≤ (cap : Int) := by clear hw1 hw2; omega
      have hk1n : (i1 : Int) ≤ (n : Int) := by clear hw1 hw2; omega
      have hkk1 : (i : Int) ≤ (i1 : Int) := by clear hw1 hw2; omega
      have hnc2 : (n : Int) ≤ (cap : Int) := by clear hw1 hw2; omega
      have hn4 : (n : Int) ≤ 400000 := by clear hw1 hw2; omega
      have L1 : ([] : List (Int × Bal)).length + (cs.take i).length ≤ 1000000 := by
       rw [List.length_take, ← hn]; clear hw1 hw2; simp; omega
      have L2 : ([] ++ cs.take i : List (Int × Bal)).length + (cs.drop i1).length ≤ 1000000 := by
       rw [List.nil_append, List.length_take, List.length_drop, ← hn]; clear hw1 hw2; omega
      have HLL := Lib.hid (And.intro L1 L2)
      have hi1c : i ≤ cs.length := by rw [← hn]; clear hw1 hw2; omega
      have hi1d : i1 ≤ cs.length := by rw [← hn]; exact hi1n
      have HLI := Lib.hid (And.intro hi1c hi1d)
      clear L1 L2 hi1c hi1d hown hown' own1 own2 own3 own4 own5 own6 lvy lpb lrb hbw hn hcs hdl htr hkk hi hs ha ht ht' hxok hrd hrc hrx hIs hHas hat hpl hpl2 hpb hati hget hsb hlb hii hi1 hi1n hi2 hil hcap hcsi hx hp p0 p2 p3 c1 h
      go_enter Tryz.func34, Tryz.ntmps34
      go_upto_region 10 with (first
       | (go_at_call 88; refine HIS.out.mono ?_; rintro e w' ⟨rfl, hw⟩; rw [hw]; clear hw w')
       | (go_at_call 11; refine HHAS.out.mono ?_; rintro e w' ⟨rfl, hw⟩; rw [hw]; clear hw w')
       | (go_at_call 90; refine HAT.out.mono ?_; rintro e w' ⟨rfl, hw⟩; rw [hw]; clear hw w')
       | (go_at_call 91; refine HPL.out.mono ?_; rintro e w1 ⟨rfl, hb⟩; have HB1 := Lib.hid hb; clear hb)
       | fail)
      have hrc1 : w1.cell? ⟨rb, kk * 9, none⟩ = some (.slice (some ⟨b, off, none⟩) n cap) := (World.cell?_of_block (HB1.out.block rb HL3.out.2.2.1)).trans HRD.out.2.1
      have lv : (loadSt_V (.pointer (some ⟨b, off + i * 7 + 1, none⟩))).run Tryz.prog w1 = .ok (.agg (balS.f x).toArray) w1 := loadV_at (cast_vote (rangeAt_block HRD.out.2.2 (HB1.out.block b HL3.out.2.2.2)))
      go_upto_region 11 with (first
       | (refine wpl_allocS (s := balS) rfl rfl rfl ?_)
       | (refine wpl_storeS (s := balS) (t := x) (b := w1.heap.size) _ _ rfl rfl rfl rfl rfl (World.alloc_heap_new w1 _) (zeroS balS) ?_; rw [newS])
       | fail)
      obtain ⟨w2, hw2'⟩ : ∃ w2, w2 = w1.alloc (balS.obj x) := ⟨_, rfl⟩
      obtain ⟨bx, hbx⟩ : ∃ bx, bx = w1.heap.size := ⟨_, rfl⟩
      rw [← hw2', ← hbx]
      have hb12 : Below w1.heap.size w1 w2 := by rw [hw2']; exact (Below.refl _ w1).alloc (Nat.le_refl _) _
      have hB2 : Below w.heap.size w w2 := HB1.out.trans (hb12.mono HB1.out.size)
      have hbo : w2.heap[bx]? = some (balS.obj x) := by rw [hw2', hbx]; exact World.alloc_heap_new _ _
      have hbl : bx < w2.heap.size := (Array.getElem?_eq_some_iff.1 hbo).1
      have hbw2 : w.heap.size ≤ bx := by rw [hbx]; exact HB1.out.size
      have HBX := Lib.hid (And.intro hbo (And.intro hbl hbw2))
      have HB2 := Lib.hid hB2
      clear hw2' hbx hb12 hbo hbl hbw2 hB2 hrc1 lv
      have hRd : ∀ W, Below w2.heap.size w2 W → RdR castR W (.slice (some ⟨b, off, none⟩) n cap) cs ∧ W.cell? ⟨rb, kk * 9, none⟩ = some (.slice (some ⟨b, off, none⟩) n cap) ∧ W.frozen? ⟨rb, kk * 9, none⟩ = false := fun W hW => by
       have hb := HB2.out.trans (hW.mono HB2.out.size)
       have h1 := Mem.below (m := ryS vy pb rb S) (F := F) HH.out hb
       have h2 := (hb.block rb HL3.out.2.2.1)
       exact ⟨HRD.out.1.keep hb.size (fun q hq => hb.block q (by injection hq with e; rw [← e]; exact HL3.out.2.2.2)), (World.cell?_of_block h2).trans HRD.out.2.1, (RyAt.frozen h1 (kk * 9)).2⟩
      have hB1 : Below w2.heap.size w2 (w2.alloc (.cells #[] 56)).drew := ((Below.refl _ w2).alloc (Nat.le_refl _) _).drew
      have hO1 : OwnR castR w2.heap.size (.slice (some ⟨w2.heap.size, 0, none⟩) 0 0) [] (w2.alloc (.cells #[] 56)).drew := OwnR.none (World.alloc_heap_new w2 (.cells #[] 56)) (Nat.le_refl _)
      have cY1 : (w2.alloc (.cells #[] 56)).cell? ⟨rb, kk * 9, none⟩ = some (.slice (some ⟨b, off, none⟩) n cap) := (hRd _ hB1).2.1
      have cY0 : w2.cell? ⟨rb, kk * 9, none⟩ = some (.slice (some ⟨b, off, none⟩) n cap) := (hRd _ (Below.refl _ _)).2.1
      have RBN := run_buildNoneK
      have hR1 : RdR castR (w2.alloc (.cells #[] 56)).drew (.slice (some ⟨b, off, none⟩) i cap) (cs.take i) := by
       have := (hRd _ hB1).1.take (k := i) HLI.out.1
       simpa [sliced, Addr.add] using this
      have hR2 : ∀ W, Below w2.heap.size w2 W → RdR castR W (sliced (some ⟨b, off, none⟩) i1 n cap 7) (cs.drop i1) := fun W hb => (hRd _ hb).1.drop (k := i1) HLI.out.2
      have HBA := Lib.hid hB1
      have HO1 := Lib.hid hO1
      have HRW := Lib.hid hRd
      have HR1 := Lib.hid hR1
      -- what holds behind the region
      have hdone : ∀ W v, Below w2.heap.size w2 W → OwnR castR w2.heap.size v ([] ++ cs.take i ++ cs.drop i1) W → (ryS vy pb rb { S with V := cdel S.V a k }).to F w (W.setCell ⟨rb, kk * 9, none⟩ v) ∧ (W.setCell ⟨rb, kk * 9, none⟩ v).heap[bx]? = some (balS.obj x) := fun W v hW ho => by
       have hb := HB2.out.trans (hW.mono HB2.out.size)
       have h1 : (ryS vy pb rb S).to F w W := ry_below (ry_refl HH.out) hb
       have hr := ho.reads
       rw [List.nil_append, ← HN.out.2.2.1, HN.out.2.1] at hr
       have ht' : 0 ≤ (S.P (k : Int).toNat).tr ∧ (S.P (k : Int).toNat).tr < 4 := by rw [Int.toNat_natCast]; exact HV.out.2.2.2.1
       have hr' : RdR castR W v (sdel (ballots S a (S.P (k : Int).toNat).tr) k) := by rw [Int.toNat_natCast]; exact hr
       have e1 := ryS_delV h1 HV.out.2.1.1 HV.out.2.2.1 ht' hr' (fun q hq => by
        have h5 := ho.block hq
        have h6 := HB2.out.size
        have h7 := HL3.out
        refine ⟨by omega, h5.2, by omega, by omega, by omega⟩)
       rw [Int.toNat_natCast, ← HN.out.2.2.2.2] at e1
       refine ⟨e1, ?_⟩
       rw [Below.heap_setCell _ _ _ bx (fun e => by have := HBX.out.2.2; have := HL3.out.2.2.1; have e : bx = rb := e; omega), hW.block bx HBX.out.2.1]
       exact HBX.out.1
      have HDN := Lib.hid hdone
      clear hB1 hO1 hRd hR1 hdone
      simp only [Act.put, List.setIfInBounds_toArray, List.set_cons_zero, List.set_cons_succ]
      go_cut [] (fun wx => (ryS vy pb rb { S with V := cdel S.V a k }).to F w wx ∧ wx.heap[bx]? = some (balS.obj x))
      case first =>
       by_cases hkc2 : cap = i1
       · have HR2f := Lib.hid (show ∀ W, Below w2.heap.size w2 W → RdR castR W (.slice (some ⟨b, off, none⟩) (n - i1) (cap - i1)) (cs.drop i1) from fun W hb => by have := hR2 W hb; simpa only [sliced, if_pos hkc2] using this)
         clear hR2
         subst hkc2
         go_region_law (first
          | (refine step_appsR (r := castR) rfl _ _ rfl w2.heap.size (.slice (some ⟨w2.heap.size, 0, none⟩) 0 0) (.slice (some ⟨b, off, none⟩) i cap) [] (cs.take i) (by simp [Act.eval, Act.put]) (by simp [Act.eval, Act.put]) HO1.out HR1.out HLL.out.1 HBA.out.size ?_; intro v2 w3 ho2 hg2 hf2; have hb2 := HBA.out.grown hg2 HBA.out.size (fun k hk => (HO1.out.block hk).1); have cY2 := (HRW.out _ hb2).2.1; have HO2 := Lib.hid ho2; have HBB := Lib.hid hb2; have HR2 := Lib.hid (HR2f.out _ hb2); clear ho2 hg2 hf2 hb2)
          | (refine step_appsR (r := castR) rfl _ _ rfl w2.heap.size v2 (.slice (some ⟨b, off, none⟩) (n - cap) (cap - cap)) ([] ++ cs.take i) (cs.drop cap) (by simp [Act.eval, Act.put]) (by simp [Act.eval, Act.put]) HO2.out HR2.out HLL.out.2 HBB.out.size ?_; intro v3 w4 ho3 hg3 hf3; obtain ⟨a3, c3, hv3⟩ := ho3.lenOf; obtain ⟨m3, hm3⟩ : ∃ m3, m3 = (([] : List (Int × Bal)) ++ cs.take i ++ cs.drop cap).length := ⟨_, rfl⟩; rw [← hm3] at hv3; subst hv3; clear hm3; have hb3 := HBB.out.grown hg3 HBB.out.size (fun k hk => (HO2.out.block hk).1); have cY3 := (HRW.out _ hb3).2.1; have fY3 := (HRW.out _ hb3).2.2; have HE := Lib.hid (HDN.out _ _ hb3 ho3); clear ho3 hg3 hf3 hb3)
          | fail)
         all_goals
          go_wp2_with fail
          go_meet
          exact HE.out
       · have hkf : (cap = i1) = False := by simp [hkc2]
         have HR2f := Lib.hid (show ∀ W, Below w2.heap.size w2 W → RdR castR W (.slice (some ⟨b, off + i1 * 7, none⟩) (n - i1) (cap - i1)) (cs.drop i1) from fun W hb => by
          have := hR2 W hb
          have hk3 : (i1 * 7 = 0) = False := by simp; exact Nat.mul_ne_zero hi10 (by decide)
          simpa [sliced, hkc2, hk3, Addr.add] using this)
         clear hR2
         go_region_law (first
          | (refine step_appsR (r := castR) rfl _ _ rfl w2.heap.size (.slice (some ⟨w2.heap.size, 0, none⟩) 0 0) (.slice (some ⟨b, off, none⟩) i cap) [] (cs.take i) (by simp [Act.eval, Act.put]) (by simp [Act.eval, Act.put]) HO1.out HR1.out HLL.out.1 HBA.out.size ?_; intro v2 w3 ho2 hg2 hf2; have hb2 := HBA.out.grown hg2 HBA.out.size (fun k hk => (HO1.out.block hk).1); have cY2 := (HRW.out _ hb2).2.1; have HO2 := Lib.hid ho2; have HBB := Lib.hid hb2; have HR2 := Lib.hid (HR2f.out _ hb2); clear ho2 hg2 hf2 hb2)
          | (refine step_appsR (r := castR) rfl _ _ rfl w2.heap.size v2 (.slice (some ⟨b, off + i1 * 7, none⟩) (n - i1) (cap - i1)) ([] ++ cs.take i) (cs.drop i1) (by simp [Act.eval, Act.put]) (by simp [Act.eval, Act.put]) HO2.out HR2.out HLL.out.2 HBB.out.size ?_; intro v3 w4 ho3 hg3 hf3; obtain ⟨a3, c3, hv3⟩ := ho3.lenOf; obtain ⟨m3, hm3⟩ : ∃ m3, m3 = (([] : List (Int × Bal)) ++ cs.take i ++ cs.drop i1).length := ⟨_, rfl⟩; rw [← hm3] at hv3; subst hv3; clear hm3; have hb3 := HBB.out.grown hg3 HBB.out.size (fun k hk => (HO2.out.block hk).1); have cY3 := (HRW.out _ hb3).2.1; have fY3 := (HRW.out _ hb3).2.2; have HE := Lib.hid (HDN.out _ _ hb3 ho3); clear ho3 hg3 hf3 hb3)
          | fail)
         all_goals
          go_wp2_with fail
          go_meet
          exact HE.out
      case rest =>
       obtain ⟨hcs1, hcs2⟩ := hcut
       clear hR2 cY0 cY1 RBN HO1 HRW HR1 HDN HBA HB2 HB1 hw1 hw2 hilI hkc hk1n hkk1 hnc2 hn4 HLL HLI
       obtain ⟨S1, hS1⟩ : ∃ S1 : Vs, S1 = { S with V := cdel S.V a k } := ⟨_, rfl⟩
       rw [← hS1] at hcs1
       have eP : S1.P = S.P := by rw [hS1]
       obtain ⟨F1, hy1, hF1, hn1⟩ := ry_next hcs1
       have hop := ry_open hy1 HK.out
       rw [eP] at hop
       obtain ⟨q0, q1, q2, q3, -⟩ := RyAt.poll hy1 HK.out
       rw [eP] at q0 q1 q2 q3
       have lbx : bx < wc.heap.size := (Array.getElem?_eq_some_iff.1 hcs2).1
       obtain ⟨own1, own2, own3, own4, own5, own6⟩ := RyAt.own hy1
       have lvy : vy < wc.heap.size := (ryS vy pb rb S1).lt (show (ryS vy pb rb S1).is F1 wc from hy1) own1
       have lpb : pb < wc.heap.size := (ryS vy pb rb S1).lt (show (ryS vy pb rb S1).is F1 wc from hy1) own2
       have lrb : rb < wc.heap.size := (ryS vy pb rb S1).lt (show (ryS vy pb rb S1).is F1 wc from hy1) own3
       have hbpb : bx ≠ pb := fun e => by have := HBX.out.2.2; have := HL3.out.2.1; omega
       have hbrb : bx ≠ rb := fun e => by have := HBX.out.2.2; have := HL3.out.2.2.1; omega
       have hrx : wc.rangeAt bx 0 (balS.f x) := rangeAt_whole (T := balS.T) hcs2
       by_cases hst : (S.P k).st = 1
       · rw [show ((S.P k).st == 1) = true by simp [hst]] at hop
         obtain ⟨tt, htt⟩ : ∃ tt, tt = (S.P k).t := ⟨_, rfl⟩
         obtain ⟨g, hg⟩ : ∃ g, g = gotS S a (S.P k).tr := ⟨_, rfl⟩
         have ct := RyAt.tally hy1 HK.out
         rw [eP, ← htt] at ct
         have cg := RyAt.got hy1 (kOf_lt HV.out.2.2.1 HV.out.2.2.2.1)
         rw [rcOf_at S1 HV.out.2.2.1 HV.out.2.2.2.1, show (rcAt S1 a (S.P k).tr).g = g by rw [hS1, hg]; rfl, ← HN.out.2.2.2.2] at cg
         obtain ⟨T3, hT3⟩ : ∃ T3, T3 = tt.sub (gainW x g) := ⟨_, rfl⟩
         have hSb : ∀ W : World, Below wc.heap.size wc W → ((loadSt_V (.pointer (some ⟨bx, 0, none⟩))).run Tryz.prog W = .ok (.agg (balS.f x).toArray) W ∧ (loadSt_W (.pointer (some ⟨rb, kk * 9 + 5, none⟩))).run Tryz.prog W = .ok (.agg (wgtS.f g).toArray) W) := fun W hW => ⟨loadV_at (rangeAt_block hrx (hW.block bx lbx)), loadW_at (rangeAt_block cg (hW.block rb lrb))⟩
         have hSs : ∀ (W : World) (vs : List Value), Below wc.heap.size wc W → ((fun W => (loadSt_V (.pointer (some ⟨bx, 0, none⟩))).run Tryz.prog W = .ok (.agg (balS.f x).toArray) W ∧ (loadSt_W (.pointer (some ⟨rb, kk * 9 + 5, none⟩))).run Tryz.prog W = .ok (.agg (wgtS.f g).toArray) W) (W.setCells pb (k * 7 + 4) vs)) := fun W vs hW =>
          ⟨loadV_at (rangeAt_block hrx ((setCells_off hbpb _ _ _).trans (hW.block bx lbx))), loadW_at (rangeAt_block cg ((setCells_off (fun e => own6 e.symm) _ _ _).trans (hW.block rb lrb)))⟩
         have hTl : ∀ W : World, Below wc.heap.size wc W → (loadSt_T (.pointer (some ⟨pb, k * 7 + 4, none⟩))).run Tryz.prog W = .ok (.agg (tlyS.f tt).toArray) W := fun W hW => loadT_at (rangeAt_block ct (hW.block pb lpb))
         have hTs : ∀ W : World, Below wc.heap.size wc W → (storeT (.pointer (some ⟨pb, k * 7 + 4, none⟩)) (.agg (tlyS.f T3).toArray)).run Tryz.prog W = .ok () (W.setCells pb (k * 7 + 4) (tlyS.f T3)) := fun W hW => run_storeT (RyAt.pthere (Mem.below (m := ryS vy pb rb S1) (F := F1) hy1 hW) HK.out (by omega)) T3
         have hend : ∀ W : World, Below wc.heap.size wc W → (ryS vy pb rb { S with V := cdel S.V a k, P := putP S.P k ((S.P k).withT T3) }).to F w (W.setCells pb (k * 7 + 4) (tlyS.f T3)) := fun W hW => by
          have := ryS_tally (ry_below hcs1 hW) HK.out T3
          rw [hS1] at this
          exact this
         have hg1 : ∀ W : World, Calls Tryz.prog 46 #[.agg (balS.f x).toArray, .agg (wgtS.f g).toArray] W fun e w' => e = .returned (.agg (tlyS.f (gainW x g)).toArray) ∧ Below W.heap.size W w' := fun W => ref_GainV x g W HV.out.2.2.2.2
         have hsub : ∀ W : World, Calls Tryz.prog 92 #[.agg (tlyS.f tt).toArray, .agg (tlyS.f (gainW x g)).toArray] W fun e w' => e = .returned (.agg (tlyS.f T3).toArray) ∧ Below W.heap.size W w' := fun W => by rw [hT3]; exact ref_SubW tt _ W
         obtain ⟨G1, hG1⟩ : ∃ g', g' = gainW x g := ⟨_, rfl⟩
         rw [← hG1] at hg1 hsub hT3
         have HOP := Lib.hid hop
         have HSB := Lib.hid hSb
         have HSS := Lib.hid hSs
         have HTL := Lib.hid hTl
         have HTS := Lib.hid hTs
         have HEND := Lib.hid hend
         have HG1 := Lib.hid hg1
         have HSUB := Lib.hid hsub
         have hfinS : Sf = { S with V := cdel S.V a k, P := putP S.P k ((S.P k).withT T3) } := by rw [HSF.out, if_pos hst, hT3, hG1, hg, htt]
         have HFS := Lib.hid hfinS
         clear hfinS hop hSb hSs hTl hTs hend hg1 hsub hG1 hT3 cg ct hg htt hst hrx hbrb hbpb lvy lpb lrb own1 own2 own3 own4 own5 own6 lbx q0 q1 q2 q3 hn1 hF1 hy1 eP hS1 hcs1 hcs2
         go_upto_region 13 with (first
          | (go_at_call 87; refine HOP.out.mono ?_; rintro e w' ⟨rfl, hw⟩; rw [hw]; clear hw w')
          | fail)
         have mixed : Tryz.prog.follows .mixedOrders = true := by kernel_rfl
         have B1 := Lib.hid (Below.refl wc.heap.size wc)
         have B2 := Lib.hid B1.out.drew
         refine startU (S := fun W => ((loadSt_V (.pointer (some ⟨bx, 0, none⟩))).run Tryz.prog W = .ok (.agg (balS.f x).toArray) W ∧ (loadSt_W (.pointer (some ⟨rb, kk * 9 + 5, none⟩))).run Tryz.prog W = .ok (.agg (wgtS.f g).toArray) W) ∧ (loadSt_T (.pointer (some ⟨pb, k * 7 + 4, none⟩))).run Tryz.prog W = .ok (.agg (tlyS.f tt).toArray) W) (L := 14) (by kernel_rfl) ?_ (fun hHeld => ?_)
         · try dsimp only
           first | with_reducible exact ⟨HSB.out _ L4.out, HTL.out _ L4.out⟩ | with_reducible exact ⟨HSB.out _ L3.out, HTL.out _ L3.out⟩ | with_reducible exact ⟨HSB.out _ B2.out, HTL.out _ B2.out⟩
         refine takeU (i := 0) (v := ?_) rfl (by kernel_rfl) (fun _ _ _ h => h) (Or.inl ⟨by rfl, ?_⟩) (by assumption) ?_
         rotate_left
         · (intro w' hSw; (try dsimp only at hSw); go_simp; try with_reducible rfl)
         try walk_nrm
         refine takeU (i := 1) (v := ?_) rfl (by kernel_rfl) (fun _ _ _ h => h) (Or.inl ⟨by rfl, ?_⟩) (by assumption) ?_
         rotate_left
         · (intro w' hSw; (try dsimp only at hSw); go_simp; try with_reducible rfl)
         try walk_nrm
         refine takeU (i := 2) (v := ?_) rfl (by kernel_rfl) (fun _ _ _ h => h) (Or.inl ⟨by rfl, ?_⟩) (by assumption) ?_
         rotate_left
         · (intro w' hSw; (try dsimp only at hSw); go_simp; try with_reducible rfl)
         try walk_nrm
         refine takeU (i := 3) (v := ?_) rfl (by kernel_rfl) (fun _ _ _ h => h) (Or.inl ⟨by rfl, ?_⟩) (by assumption) ?_
         rotate_left
         · (intro w' hSw; (try dsimp only at hSw); go_simp; try with_reducible rfl)
         try walk_nrm
         refine takeU (i := 4) (v := ?_) rfl (by kernel_rfl) (fun _ _ _ h => h) (Or.inl ⟨by rfl, ?_⟩) (by assumption) ?_
         rotate_left
         · (intro w' hSw; (try dsimp only at hSw); go_simp; try with_reducible rfl)
         try walk_nrm
         refine takeU (i := 5) (v := ?_) rfl (by kernel_rfl) (fun _ _ _ h => h) (Or.inl ⟨by rfl, ?_⟩) (by assumption) ?_
         rotate_left
         · (intro w' hSw; (try dsimp only at hSw); go_simp; try with_reducible rfl)
         try walk_nrm
         refine takeU (i := 6) (v := ?_) rfl (by kernel_rfl) (fun _ _ _ h => h) (Or.inl ⟨by rfl, ?_⟩) (by assumption) ?_
         rotate_left
         · (intro w' hSw; (try dsimp only at hSw); go_simp; try with_reducible rfl)
         try walk_nrm
         refine takeU (i := 7) (v := ?_) rfl (by kernel_rfl) (fun _ _ _ h => h) (Or.inl ⟨by rfl, ?_⟩) (by assumption) ?_
         rotate_left
         · (intro w' hSw; (try dsimp only at hSw); go_simp; try with_reducible rfl)
         try walk_nrm
         refine takeU (i := 8) (v := ?_) rfl (by kernel_rfl) (fun _ _ _ h => h) (Or.inl ⟨by rfl, ?_⟩) (by assumption) ?_
         rotate_left
         · (intro w' hSw; (try dsimp only at hSw); go_simp; try with_reducible rfl)
         try walk_nrm
         refine takeU (i := 9) (v := ?_) rfl (by kernel_rfl) (fun _ _ _ h => h) (Or.inl ⟨by rfl, ?_⟩) (by assumption) ?_
         rotate_left
         · (intro w' hSw; (try dsimp only at hSw); go_simp; try with_reducible rfl)
         try walk_nrm
         refine readyU (rs := [10]) (by kernel_rfl) (by simp) ?_
         refine AllReadyU.cons rfl (fun K hK => ?_) AllReadyU.nil
         simp only [List.getElem_toArray, List.getElem_cons_zero, List.getElem_cons_succ]
         go_simp
         go_at_call 46; with_reducible refine (HG1.out _).mono ?_; rintro e w3 ⟨rfl, hb⟩; have L3 := Lib.hid (B2.out.trans (hb.mono B2.out.size)); clear hb
         first | refine hK.out _ _ ?_ (fun hHeld => ?_) | (go_wp2_with fail; refine hK.out _ _ ?_ (fun hHeld => ?_))
         · try dsimp only
           first | with_reducible exact ⟨HSB.out _ L4.out, HTL.out _ L4.out⟩ | with_reducible exact ⟨HSB.out _ L3.out, HTL.out _ L3.out⟩ | with_reducible exact ⟨HSB.out _ B2.out, HTL.out _ B2.out⟩
         clear hK K
         try walk_nrm
         refine readyU (rs := [11]) (by kernel_rfl) (by simp) ?_
         refine AllReadyU.cons rfl (fun K hK => ?_) AllReadyU.nil
         simp only [List.getElem_toArray, List.getElem_cons_zero, List.getElem_cons_succ]
         go_simp
         go_at_call 92; with_reducible refine (HSUB.out _).mono ?_; rintro e w4 ⟨rfl, hb⟩; have L4 := Lib.hid (L3.out.trans (hb.mono L3.out.size)); have ts4 := HTS.out _ L4.out; clear hb
         first | refine hK.out _ _ ?_ (fun hHeld => ?_) | (go_wp2_with fail; refine hK.out _ _ ?_ (fun hHeld => ?_))
         · try dsimp only
           first | with_reducible exact ⟨HSB.out _ L4.out, HTL.out _ L4.out⟩ | with_reducible exact ⟨HSB.out _ L3.out, HTL.out _ L3.out⟩ | with_reducible exact ⟨HSB.out _ B2.out, HTL.out _ B2.out⟩
         clear hK K
         try walk_nrm
         refine takeU (i := 12) (v := ?_) rfl (by kernel_rfl) (fun _ _ _ h => h) (Or.inl ⟨by rfl, ?_⟩) (by assumption) ?_
         rotate_left
         · (intro w' hSw; (try dsimp only at hSw); go_simp; try with_reducible rfl)
         try walk_nrm
         refine takeU (i := 13) (v := ?_) rfl (by kernel_rfl) (fun _ _ _ h => h) (Or.inl ⟨by rfl, ?_⟩) (by assumption) ?_
         rotate_left
         · (intro w' hSw; (try dsimp only at hSw); go_simp; try with_reducible rfl)
         try walk_nrm
         refine readyU (rs := [14]) (by kernel_rfl) (by simp) ?_
         refine AllReadyU.last rfl (fun K hK => ?_)
         simp only [List.getElem_toArray, List.getElem_cons_zero, List.getElem_cons_succ]
         go_simp
         first | refine hK.out _ _ ?_ | (go_wp2_with fail; refine hK.out _ _ ?_)
         clear hK K
         try walk_nrm
         refine doneU (by kernel_rfl) ?_ _
         go_wp2_with fail
         exact bodyPost_ret (v := .int .i64 0) (by simp [results, Tryz.results34, go_sem]) rfl ⟨rfl, by rw [HFS.out]; exact HEND.out _ L4.out⟩
       · rw [show ((S.P k).st == 1) = false by simp [hst]] at hop
         obtain ⟨en, hen⟩ : ∃ en, en = (S.P k).en := ⟨_, rfl⟩
         rw [← hen] at q3
         obtain ⟨pr, hpr⟩ : ∃ pr, pr = periodI x.l 8 := ⟨_, rfl⟩
         obtain ⟨un, hun⟩ : ∃ un, un = wrap64 (en + pr) := ⟨_, rfl⟩
         have hun1 : wrap64 (en + pr) = un := hun.symm
         have hun2 : IntKind.i64.wrap (en + pr) = un := (IntWalk.i64_left _).trans hun.symm
         have hlb : 0 ≤ x.l ∧ x.l ≤ 6 := bal_level HV.out.2.2.2.2
         have hpe : ∀ W : World, Calls Tryz.prog 94 #[.int .i64 x.l, .int .i64 8] W fun e w' => e = .returned (.int .i64 pr) ∧ W = w' := fun W => by rw [hpr]; exact ref_Period x.l 8 W (by decide) (by decide) hlb.1 hlb.2
         have cp := RyAt.prange hy1 HK.out
         rw [eP] at cp
         have hw3 : ∀ W : World, Calls Tryz.prog 95 #[.agg (poL (S.P k)).toArray, .agg (balS.f x).toArray] W fun e w' => e = .returned (.bool (wonB (S.P k).st x)) ∧ Below W.heap.size W w' := fun W => ry_won _ _ (S.P k).st _ _ _ _ x W
         obtain ⟨xl, hxl⟩ : ∃ xl, xl = x.l := ⟨_, rfl⟩
         obtain ⟨xa, hxa⟩ : ∃ xa, xa = x.a := ⟨_, rfl⟩
         rw [← hxl] at hpe
         have hcl : ∀ W : World, W.heap[bx]? = wc.heap[bx]? → W.cell? ⟨bx, 2, none⟩ = some (.int .i64 xl) ∧ W.cell? ⟨bx, 3, none⟩ = some (.int .i64 xa) := fun W hW => by
          have hW2 := hW.trans hcs2
          exact ⟨by rw [World.cell?, hW2, hxl]; rfl, by rw [World.cell?, hW2, hxa]; rfl⟩
         have hSb : ∀ W : World, Below wc.heap.size wc W → (W.cell? ⟨pb, k * 7 + 3, none⟩ = some (.int .i64 en) ∧ W.cell? ⟨bx, 2, none⟩ = some (.int .i64 xl)) := fun W hW => ⟨(World.cell?_of_block (hW.block pb lpb)).trans q3, (hcl W (hW.block bx lbx)).1⟩
         have hSc : ∀ W : World, Below wc.heap.size wc W → ((loadPo (.pointer (some ⟨pb, k * 7, none⟩))).run Tryz.prog W = .ok (.agg (poL (S.P k)).toArray) W ∧ (loadSt_V (.pointer (some ⟨bx, 0, none⟩))).run Tryz.prog W = .ok (.agg (balS.f x).toArray) W) := fun W hW => ⟨run_loadPo (rangeAt_block cp (hW.block pb lpb)), loadV_at (rangeAt_block hrx (hW.block bx lbx))⟩
         have hjoin : ∀ W : World, Below wc.heap.size wc W → now < un → Calls Tryz.prog 96 #[.pointer (some ⟨rb, kk * 9, none⟩), .int .i64 un, .int .i64 xa] W fun e w' => e = .returned (.tuple #[]) ∧ (ryS vy pb rb { S with V := cdel S.V a k, Q := joinQ S.Q a (S.P k).tr un xa now }).to F w w' := fun W hW hlt => by
          obtain ⟨F2, h2, -, h3⟩ := ry_next (ry_below hcs1 hW)
          have := ryS_join h2 (by rw [hS1]; exact HV.out.2.1.2.2.2) HV.out.2.2.1 HV.out.2.2.2.1 un xa
          rw [← HN.out.2.2.2.2] at this
          refine this.mono fun e w' ⟨e1, e2⟩ => ⟨e1, ?_⟩
          have e3 := h3 _ _ e2
          have e4 : joinQ S.Q a (S.P k).tr un xa now = cput S1.Q a (S.P k).tr ⟨max ((cget S1.Q a (S.P k).tr).getD ⟨0, 0⟩).v un, max ((cget S1.Q a (S.P k).tr).getD ⟨0, 0⟩).c xa⟩ := by unfold joinQ; rw [if_neg (by omega), hS1]
          rw [e4]
          rw [hS1] at e3 ⊢
          exact e3
         have hnoj : ∀ W : World, Below wc.heap.size wc W → un ≤ now → (ryS vy pb rb { S with V := cdel S.V a k, Q := joinQ S.Q a (S.P k).tr un xa now }).to F w W := fun W hW hlt => by
          have e4 : joinQ S.Q a (S.P k).tr un xa now = S.Q := by unfold joinQ; rw [if_pos hlt]
          rw [e4]
          have := ry_below hcs1 hW
          rw [hS1] at this
          exact this
         have hlose : ∀ W : World, Below wc.heap.size wc W → (ryS vy pb rb { S with V := cdel S.V a k }).to F w W := fun W hW => by
          have := ry_below hcs1 hW
          rw [hS1] at this
          exact this
         have hF2 : wonB (S.P k).st x = true → Sf = { S with V := cdel S.V a k, Q := joinQ S.Q a (S.P k).tr un xa now } := fun hw => by rw [HSF.out, if_neg hst, if_pos hw, hun, hen, hpr, hxa]
         have hF3 : wonB (S.P k).st x = false → Sf = { S with V := cdel S.V a k } := fun hw => by rw [HSF.out, if_neg hst, if_neg (by rw [hw]; decide)]
         obtain ⟨wb, hwb⟩ : ∃ wb, wb = wonB (S.P k).st x := ⟨_, rfl⟩
         rw [← hwb] at hw3
         have HF2 := Lib.hid (show wb = true → _ from fun h => hF2 (hwb ▸ h))
         have HF3 := Lib.hid (show wb = false → _ from fun h => hF3 (hwb ▸ h))
         have HOP := Lib.hid hop
         have HPE := Lib.hid hpe
         have HW3 := Lib.hid hw3
         have HSB := Lib.hid hSb
         have HSC := Lib.hid hSc
         have HJ := Lib.hid hjoin
         have HNJ := Lib.hid hnoj
         have HLO := Lib.hid hlose
         have HCL := Lib.hid hcl
         have HLB := Lib.hid lbx
         clear hF2 hF3 hwb hop hpe hw3 hSb hSc hjoin hnoj hlose hcl hxl hxa cp hlb hun hpr hen hst hrx hbrb hbpb lvy lpb lrb own1 own2 own3 own4 own5 own6 lbx q0 q1 q2 q3 hn1 hF1 hy1 eP hS1 hcs1 hcs2
         go_upto_region 15 with (first
          | (go_at_call 87; refine HOP.out.mono ?_; rintro e w' ⟨rfl, hw⟩; rw [hw]; clear hw w')
          | fail)
         have mixed : Tryz.prog.follows .mixedOrders = true := by kernel_rfl
         have B1 := Lib.hid (Below.refl wc.heap.size wc)
         first
          | go_region_held3 (fun W => W.cell? ⟨pb, k * 7 + 3, none⟩ = some (.int .i64 en) ∧ W.cell? ⟨bx, 2, none⟩ = some (.int .i64 xl)) (first | exact HSB.out _ B1.out | exact HSB.out _ B1.out.drew) (first
           | (go_at_call 94; with_reducible refine (HPE.out _).mono ?_; rintro e w' ⟨rfl, rfl⟩)
           | fail)
          | fail
         go_upto_region 16 with fail
         have B2 := Lib.hid B1.out.drew
         have B3 := Lib.hid B2.out.drew
         cases wb with
         | true =>
          by_cases hlt : now < un
          · first
             | go_region_held3 (fun W => (loadPo (.pointer (some ⟨pb, k * 7, none⟩))).run Tryz.prog W = .ok (.agg (poL (S.P k)).toArray) W ∧ (loadSt_V (.pointer (some ⟨bx, 0, none⟩))).run Tryz.prog W = .ok (.agg (balS.f x).toArray) W) (first | exact HSC.out _ B2.out | exact HSC.out _ B3.out | exact HSC.out _ L4.out) (first
              | (go_at_call 95; with_reducible refine (HW3.out _).mono ?_; rintro e w4 ⟨rfl, hb⟩; have L4 := Lib.hid (B3.out.trans (hb.mono B3.out.size)); clear hb)
              | fail)
             | fail
            have c3 := (HCL.out w4 (L4.out.block bx HLB.out)).2
            go_wp2_with (first
             | (go_at_call 96; refine (HJ.out _ L4.out hlt).mono ?_; rintro e w5 ⟨rfl, h5⟩; have H5 := Lib.hid h5; clear h5)
             | fail)
            exact bodyPost_ret (v := .int .i64 0) (by simp [results, Tryz.results34, go_sem]) rfl ⟨rfl, by rw [HF2.out (by first | rfl | trivial)]; exact H5.out⟩
          · have hlt' : un ≤ now := by omega
            first
             | go_region_held3 (fun W => (loadPo (.pointer (some ⟨pb, k * 7, none⟩))).run Tryz.prog W = .ok (.agg (poL (S.P k)).toArray) W ∧ (loadSt_V (.pointer (some ⟨bx, 0, none⟩))).run Tryz.prog W = .ok (.agg (balS.f x).toArray) W) (first | exact HSC.out _ B2.out | exact HSC.out _ B3.out | exact HSC.out _ L4.out) (first
              | (go_at_call 95; with_reducible refine (HW3.out _).mono ?_; rintro e w4 ⟨rfl, hb⟩; have L4 := Lib.hid (B3.out.trans (hb.mono B3.out.size)); clear hb)
              | fail)
             | fail
            have H5 := Lib.hid (HNJ.out _ L4.out hlt')
            go_wp2_with fail
            exact bodyPost_ret (v := .int .i64 0) (by simp [results, Tryz.results34, go_sem]) rfl ⟨rfl, by rw [HF2.out (by first | rfl | trivial)]; exact H5.out⟩
         | false =>
          refine wp_region_held_drew (S := fun W => (loadPo (.pointer (some ⟨pb, k * 7, none⟩))).run Tryz.prog W = .ok (.agg (poL (S.P k)).toArray) W ∧ (loadSt_V (.pointer (some ⟨bx, 0, none⟩))).run Tryz.prog W = .ok (.agg (balS.f x).toArray) W) (by kernel_rfl) ?_ (fun hHeld => ?_)
          · try dsimp only
            first | exact HSC.out _ L4.out | exact HSC.out _ B3.out | exact HSC.out _ B2.out
          refine wpAnyH_take (i := 0) (v := ?_) rfl (by kernel_rfl) (by kernel_rfl) (by kernel_rfl) (fun _ _ _ h => h) (Or.inl ⟨by rfl, ?_⟩) (by assumption) ?_
          rotate_left
          · intro w' hSw
            try dsimp only at hSw
            go_simp
            try with_reducible rfl
          try walk_nrm
          refine wpAnyH_take (i := 1) (v := ?_) rfl (by kernel_rfl) (by kernel_rfl) (by kernel_rfl) (fun _ _ _ h => h) (Or.inl ⟨by rfl, ?_⟩) (by assumption) ?_
          rotate_left
          · intro w' hSw
            try dsimp only at hSw
            go_simp
            try with_reducible rfl
          try walk_nrm
          refine wpAnyH_take (i := 2) (v := ?_) rfl (by kernel_rfl) (by kernel_rfl) (by kernel_rfl) (fun _ _ _ h => h) (Or.inl ⟨by rfl, ?_⟩) (by assumption) ?_
          rotate_left
          · intro w' hSw
            try dsimp only at hSw
            go_simp
            try with_reducible rfl
          try walk_nrm
          refine wpAnyH_take (i := 3) (v := ?_) rfl (by kernel_rfl) (by kernel_rfl) (by kernel_rfl) (fun _ _ _ h => h) (Or.inl ⟨by rfl, ?_⟩) (by assumption) ?_
          rotate_left
          · intro w' hSw
            try dsimp only at hSw
            go_simp
            try with_reducible rfl
          try walk_nrm
          refine wpAnyH_ready (rs := [4]) (by kernel_rfl) (by simp) ?_
          refine AllReadyH.cons rfl (fun K hK => ?_) ?_
          · simp only [List.getElem_toArray, List.getElem_cons_zero, List.getElem_cons_succ]
            go_simp
            go_at_call 95; with_reducible refine (HW3.out _).mono ?_; rintro e w4 ⟨rfl, hb⟩; have L4 := Lib.hid (B3.out.trans (hb.mono B3.out.size)); clear hb
            first | refine hK.out _ _ ?_ (fun hHeld => ?_) | (go_wp2_with fail; refine hK.out _ _ ?_ (fun hHeld => ?_))
            · try dsimp only
              first | exact HSC.out _ L4.out | exact HSC.out _ B3.out | exact HSC.out _ B2.out
            clear hK K
            try walk_nrm
            refine wpAnyH_take (i := 5) (v := ?_) rfl (by kernel_rfl) (by kernel_rfl) (by kernel_rfl) (fun _ _ _ h => h) (Or.inl ⟨by rfl, ?_⟩) (by assumption) ?_
            rotate_left
            · intro w' hSw
              try dsimp only at hSw
              go_simp
              try with_reducible rfl
            try walk_nrm
            refine wpAnyH_take (i := 6) (v := undef) rfl (by kernel_rfl) (by kernel_rfl) (by kernel_rfl) (fun _ _ _ h => h) (Or.inr ⟨by kernel_rfl, rfl⟩) (by assumption) ?_
            try walk_nrm
            refine wpAnyH_take (i := 7) (v := undef) rfl (by kernel_rfl) (by kernel_rfl) (by kernel_rfl) (fun _ _ _ h => h) (Or.inr ⟨by kernel_rfl, rfl⟩) (by assumption) ?_
            try walk_nrm
            refine wpAnyH_take (i := 8) (v := undef) rfl (by kernel_rfl) (by kernel_rfl) (by kernel_rfl) (fun _ _ _ h => h) (Or.inr ⟨by kernel_rfl, rfl⟩) (by assumption) ?_
            try walk_nrm
            refine wpAnyH_take (i := 9) (v := ?_) rfl (by kernel_rfl) (by kernel_rfl) (by kernel_rfl) (fun _ _ _ h => h) (Or.inl ⟨by rfl, ?_⟩) (by assumption) ?_
            rotate_left
            · intro w' hSw
              try dsimp only at hSw
              go_simp
              try with_reducible rfl
            try walk_nrm
            refine wpAnyH_done (by kernel_rfl) ?_ _
            go_wp2_with fail
            exact bodyPost_ret (v := .int .i64 0) (by simp [results, Tryz.results34, go_sem]) rfl ⟨rfl, by rw [HF3.out (by first | rfl | trivial)]; exact HLO.out _ L4.out⟩
          exact AllReadyH.nil
   · have eE : unvoteE S a r = 4 := by unfold unvoteE; rw [if_neg (fun q => q ha), if_pos (.inl hp)]
     have eS : unvoteS S a r now = S := by unfold unvoteS; rw [if_neg (by rw [eE]; decide)]
     rw [eS, eE]
     rw [decide_eq_false hp] at hHas
     have HIS := Lib.hid hIs
     have HHAS := Lib.hid hHas
     clear hIs hHas hp ha eE eS h hi hs
     go_enter Tryz.func34, Tryz.ntmps34
     go_wp2_with (first
      | (go_at_call 88; refine HIS.out.mono ?_; rintro e w' ⟨rfl, hw⟩; rw [hw]; clear hw w')
      | (go_at_call 11; refine HHAS.out.mono ?_; rintro e w' ⟨rfl, hw⟩; rw [hw]; clear hw w')
      | fail)
     exact bodyPost_ret (v := .int .i64 4) (by simp [results, Tryz.results34, go_sem]) rfl ⟨rfl, ry_refl HH.out⟩
 · have eE : unvoteE S a r = 1 := by unfold unvoteE; rw [if_pos ha]
   have eS : unvoteS S a r now = S := by unfold unvoteS; rw [if_neg (by rw [eE]; decide)]
   rw [eS, eE]
   rw [decide_eq_false (show ¬ (0 ≤ a ∧ a < 10) from ha)] at hIs
   have HIS := Lib.hid hIs
   clear hIs ha eE eS h hi hs
   go_enter Tryz.func34, Tryz.ntmps34
   go_wp2_with (first
    | (go_at_call 88; refine HIS.out.mono ?_; rintro e w' ⟨rfl, hw⟩; rw [hw]; clear hw w')
    | fail)
   exact bodyPost_ret (v := .int .i64 1) (by simp [results, Tryz.results34, go_sem]) rfl ⟨rfl, ry_refl HH.out⟩
end
end
section
open Go.RowKit Go.Maps
section
variable {y ab vy pb rb : Nat} {A : Acc} {M : Cls Int} {S S' : Vs} {F : FP} {w w' W W' : World}
theorem ryS_putP {P' : Nat → Pl} (h : (ryS vy pb rb { S with P := P' }).to F w W) (hP : ∀ k, (P' k).tr = (S.P k).tr) (hs : SrtC S.V) {a r : Int} (ha : isAcc a) (ht : 0 ≤ (S.P r.toNat).tr ∧ (S.P r.toNat).tr < 4) (x : Bal) {v : Value} (hr : RdR castR W v (sput (ballots S a (S.P r.toNat).tr) r x)) (hv : ∀ b, v.ownBlock = some b → w.heap.size ≤ b ∧ b < W.heap.size ∧ b ≠ vy ∧ b ≠ pb ∧ b ≠ rb) : (ryS vy pb rb { S with V := cput S.V a r x, P := P' }).to F w (W.setCell ⟨rb, kOf a (S.P r.toNat).tr * 9, none⟩ v) := by
 have h1 : (ryM vy pb rb P' (rcOf S)).to F w W := ry_congr h (fun _ _ => rfl) (fun k hk => (rec_polls S hP k hk).symm)
 exact ry_congr (ry_setC h1 (kOf_lt ha ht) hr hv) (fun _ _ => rfl) (rec_vote hs ha ht x hP)
theorem wp_meetF {P : Program} {c : Code} {K : Act → World → Prop} {Q : Exit → Act → World → Prop} {a fr : Act} {w : World} {S : World → Prop} (h : c.wp P (Exit.then (fun a w => a = fr ∧ S w) (fun _ _ _ => False)) a w) (hK : ∀ w, S w → K fr w) : c.wp P (Exit.then K Q) a w :=
 (wpIn_wide (n := 0)).1 (region_meet h (fun a w ⟨e, hs⟩ => by rw [e]; exact hK w hs))
theorem le_alloc {n : Nat} {w : World} (h : n ≤ w.heap.size) (o : Obj) : n ≤ (w.alloc o).heap.size := by rw [World.size_alloc]; exact Nat.le_succ_of_le h
theorem capB_nonneg {x : Bal} (h : balOk x = true) : 0 ≤ capB x := by
 obtain ⟨k, aye, l, a, n, s⟩ := x
 simp only [balOk, voteB, Bool.and_eq_true] at h
 obtain ⟨⟨⟨⟨h0, h1⟩, h2⟩, h3⟩, -⟩ := h
 have := (withinB_out h1).1
 have := (withinB_out h2).1
 have := (withinB_out h3).1
 show 0 ≤ a + n + s
 omega
theorem rx_grown {P : Nat → Pl} {R : Nat → Rc} {B0 : FP} {w0 w7 w8 : World} {row : Option Nat} (h : RyAt vy pb rb P R B0 w7 ∧ Only B0 (fun _ => False) w0 w7) (hg : w7.grownBy w8 row) (hB : ∀ q, B0 q → q < w0.heap.size) (hr : ∀ q, row = some q → w0.heap.size ≤ q) (hsz : w0.heap.size ≤ w7.heap.size) : (ryM vy pb rb P R).to B0 w0 w8 := by
 have hgr : Grow w7 w8 := ⟨hg.os, hg.tape, hg.output, hg.size⟩
 have hsame : ∀ q, q < w0.heap.size → w8.heap[q]? = w7.heap[q]? := fun q hq => hg.block q (by omega) (fun e => by have := hr q e.symm; omega)
 exact ⟨B0, (ryM vy pb rb P R).keep h.1 hgr (fun q hq => hsame q (hB q hq)), fun q hq => .inl hq, h.2.grow.trans hgr, fun q hq h1 h2 => (hsame q hq).trans (h.2.block q hq h1 h2)⟩
theorem withT_withT (p : Pl) (t u : Tl) : (p.withT t).withT u = p.withT u := rfl
theorem ref_IsV (x : Bal) (w : World) : Calls Tryz.prog 89 #[.agg #[.int .i64 x.k, .bool x.aye, .int .i64 x.l, .int .i64 x.a, .int .i64 x.n, .int .i64 x.s]] w fun e w' => e = .returned (.bool (balOk x)) ∧ Below w.heap.size w w' := ref_Is5 x.k x.aye x.l x.a x.n x.s w
end
end
end Go.Proofs.YtbpemdihoabbcaaGreat
