/-
  Joined texts.
-/
import Derived.Deep.QuietTactic
import Derived.BigQuiet
import Derived.Deep.RegionHeld3
import Derived.BigRegion
import Derived.RegionTactic
import Derived.Test.YtbpemdihoabbcaaGreatMhl
namespace Go.Proofs.YtbpemdihoabbcaaGreat
set_option linter.unusedVariables false
set_option linter.unusedSimpArgs false
section
open Go.RowKit Go.Maps
section
variable {β : Type}
theorem cget_put {M : Cls β} (h : SrtC M) (a b a' b' : Int) (v : β) : cget (cput M a b v) a' b' = if a' = a ∧ b' = b then some v else cget M a' b' := by
 unfold cget
 rw [h.row_put]
 by_cases e : a' = a
 · subst e
   rw [if_pos rfl, (h.row a').get_put]
   by_cases e2 : b' = b <;> simp [e2]
 · rw [if_neg e]; simp [e]
theorem cget_del {M : Cls β} (h : SrtC M) (a b a' b' : Int) : cget (cdel M a b) a' b' = if a' = a ∧ b' = b then none else cget M a' b' := by
 unfold cget
 rw [h.row_del]
 by_cases e : a' = a
 · subst e
   rw [if_pos rfl, (h.row a').get_del]
   by_cases e2 : b' = b <;> simp [e2]
 · rw [if_neg e]; simp [e]
end
def kOf (a t : Int) : Nat := (a * 4 + t).toNat
theorem kOf_lt {a t : Int} (ha : isAcc a) (ht : 0 ≤ t ∧ t < 4) : kOf a t < 40 := by unfold kOf isAcc at *; omega
theorem kOf_cast {a t : Int} (ha : isAcc a) (ht : 0 ≤ t ∧ t < 4) : (kOf a t : Int) = a * 4 + t := by unfold kOf isAcc at *; omega
def rcAt (S : Vs) (a t : Int) : Rc := ⟨ballots S a t, (cget S.D a t).isSome, (undD S a t).to, (undD S a t).l, (undD S a t).n, gotS S a t, ((cget S.Q a t).getD ⟨0, 0⟩).v, ((cget S.Q a t).getD ⟨0, 0⟩).c⟩
def rcOf (S : Vs) (k : Nat) : Rc := rcAt S ((k / 4 : Nat) : Int) ((k % 4 : Nat) : Int)
theorem rcOf_at (S : Vs) {a t : Int} (ha : isAcc a) (ht : 0 ≤ t ∧ t < 4) : rcOf S (kOf a t) = rcAt S a t := by
 unfold rcOf
 have e1 : ((kOf a t / 4 : Nat) : Int) = a := by unfold kOf isAcc at *; omega
 have e2 : ((kOf a t % 4 : Nat) : Int) = t := by unfold kOf isAcc at *; omega
 rw [e1, e2]
theorem rcOf_split {k : Nat} (hk : k < 40) : ∃ a t : Int, isAcc a ∧ (0 ≤ t ∧ t < 4) ∧ k = kOf a t := ⟨((k / 4 : Nat) : Int), ((k % 4 : Nat) : Int), by unfold isAcc; omega, by omega, by unfold kOf; omega⟩
theorem kOf_inj {a t a' t' : Int} (ha : isAcc a) (ht : 0 ≤ t ∧ t < 4) (ha' : isAcc a') (ht' : 0 ≤ t' ∧ t' < 4) : kOf a t = kOf a' t' ↔ a = a' ∧ t = t' := by unfold kOf isAcc at *; omega
theorem updN_rec {S S' : Vs} {a t : Int} {rc : Rc} (ha : isAcc a) (ht : 0 ≤ t ∧ t < 4) (h : ∀ a' t', isAcc a' → (0 ≤ t' ∧ t' < 4) → rcAt S' a' t' = if a' = a ∧ t' = t then rc else rcAt S a' t') : ∀ k, k < 40 → updN (rcOf S) (kOf a t) rc k = rcOf S' k := by
 intro k hk
 obtain ⟨a', t', ha', ht', rfl⟩ := rcOf_split hk
 rw [rcOf_at S' ha' ht', h a' t' ha' ht']
 by_cases e : a' = a ∧ t' = t
 · rw [if_pos e, e.1, e.2, updN_same]
 · rw [if_neg e, updN_other _ _ (fun q => e ((kOf_inj ha' ht' ha ht).1 q)), rcOf_at S ha' ht']
theorem rec_same {S S' : Vs} (h : ∀ a' t', isAcc a' → (0 ≤ t' ∧ t' < 4) → rcAt S' a' t' = rcAt S a' t') : ∀ k, k < 40 → rcOf S k = rcOf S' k := by
 intro k hk
 obtain ⟨a', t', ha', ht', rfl⟩ := rcOf_split hk
 rw [rcOf_at S' ha' ht', h a' t' ha' ht', rcOf_at S ha' ht']
theorem tbal_tr {P P' : Nat → Pl} (h : ∀ k, (P' k).tr = (P k).tr) (t : Int) (l : List (Int × Bal)) : tbal P' t l = tbal P t l := by
 unfold tbal
 congr 1
 funext x
 rw [h]
theorem putP_tr {P : Nat → Pl} {k : Nat} {p : Pl} (h : p.tr = (P k).tr) (i : Nat) : (putP P k p i).tr = (P i).tr := by
 by_cases e : i = k
 · subst e; rw [putP_same, h]
 · rw [putP_other _ _ e]
theorem tbal_key (P : Nat → Pl) (t : Int) : ∀ x y : Int × Bal, x.1 = y.1 → ((P x.1.toNat).tr == t) = ((P y.1.toNat).tr == t) := fun x y h => by rw [h]
theorem ballots_srt {S : Vs} (h : SrtC S.V) (a t : Int) : SrtK (ballots S a t) := List.Pairwise.filter _ (h.row a)
theorem ballots_get {S : Vs} (h : SrtC S.V) (a r : Int) : sget (ballots S a (S.P r.toNat).tr) r = cget S.V a r :=
 sget_filter (p := fun x => (S.P x.1.toNat).tr == (S.P r.toNat).tr) (tbal_key S.P _) (h.row a) r ⟨0, false, 0, 0, 0, 0⟩ (by simp)
theorem ballots_put {S : Vs} (h : SrtC S.V) {P' : Nat → Pl} (hP : ∀ k, (P' k).tr = (S.P k).tr) (a r : Int) (x : Bal) (a' t' : Int) : ballots { S with V := cput S.V a r x, P := P' } a' t' = if a' = a ∧ t' = (S.P r.toNat).tr then sput (ballots S a t') r x else ballots S a' t' := by
 unfold ballots
 simp only
 rw [tbal_tr hP, h.row_put]
 by_cases e : a' = a
 · subst e
   rw [if_pos rfl]
   unfold tbal
   rw [sput_filter (tbal_key S.P t') (h.row a')]
   by_cases e2 : t' = (S.P r.toNat).tr
   · rw [if_pos (by simp [e2]), if_pos ⟨rfl, e2⟩]
   · rw [if_neg (by simp; exact fun q => e2 q.symm), if_neg (fun q => e2 q.2)]
 · rw [if_neg e, if_neg (fun q => e q.1)]
theorem ballots_del {S : Vs} (h : SrtC S.V) {P' : Nat → Pl} (hP : ∀ k, (P' k).tr = (S.P k).tr) (a r : Int) (a' t' : Int) : ballots { S with V := cdel S.V a r, P := P' } a' t' = if a' = a ∧ t' = (S.P r.toNat).tr then sdel (ballots S a t') r else ballots S a' t' := by
 unfold ballots
 simp only
 rw [tbal_tr hP, h.row_del]
 by_cases e : a' = a
 · subst e
   rw [if_pos rfl]
   unfold tbal
   rw [sdel_filter]
   by_cases e2 : t' = (S.P r.toNat).tr
   · rw [if_pos ⟨rfl, e2⟩]
   · rw [if_neg (fun q => e2 q.2)]
     refine sdel_all (fun y hy => fun q => ?_)
     have := (List.mem_filter.1 hy).2
     rw [q] at this
     simp at this
     exact e2 this.symm
 · rw [if_neg e, if_neg (fun q => e q.1)]
theorem Rc.eq {r s : Rc} (h1 : r.c = s.c) (h2 : r.on = s.on) (h3 : r.who = s.who) (h4 : r.l = s.l) (h5 : r.n = s.n) (h6 : r.g = s.g) (h7 : r.u = s.u) (h8 : r.p = s.p) : r = s := by
 cases r; cases s; simp_all
theorem rec_vote {S : Vs} (h : SrtC S.V) {a r : Int} (ha : isAcc a) (ht : 0 ≤ (S.P r.toNat).tr ∧ (S.P r.toNat).tr < 4) (x : Bal) {P' : Nat → Pl} (hP : ∀ k, (P' k).tr = (S.P k).tr) :
 ∀ k, k < 40 → updN (rcOf S) (kOf a (S.P r.toNat).tr) { rcOf S (kOf a (S.P r.toNat).tr) with c := sput (ballots S a (S.P r.toNat).tr) r x } k = rcOf { S with V := cput S.V a r x, P := P' } k := by
 refine updN_rec ha ht (fun a' t' ha' ht' => ?_)
 rw [rcOf_at S ha ht]
 by_cases e : a' = a ∧ t' = (S.P r.toNat).tr
 · obtain ⟨rfl, rfl⟩ := e
   rw [if_pos ⟨rfl, rfl⟩]
   exact Rc.eq (by show ballots _ _ _ = _; rw [ballots_put h hP, if_pos ⟨rfl, rfl⟩]) rfl rfl rfl rfl rfl rfl rfl
 · rw [if_neg e]
   exact Rc.eq (by show ballots _ _ _ = _; rw [ballots_put h hP, if_neg e]; rfl) rfl rfl rfl rfl rfl rfl rfl
theorem rec_unvote {S : Vs} (h : SrtC S.V) {a r : Int} (ha : isAcc a) (ht : 0 ≤ (S.P r.toNat).tr ∧ (S.P r.toNat).tr < 4) {P' : Nat → Pl} (hP : ∀ k, (P' k).tr = (S.P k).tr) :
 ∀ k, k < 40 → updN (rcOf S) (kOf a (S.P r.toNat).tr) { rcOf S (kOf a (S.P r.toNat).tr) with c := sdel (ballots S a (S.P r.toNat).tr) r } k = rcOf { S with V := cdel S.V a r, P := P' } k := by
 refine updN_rec ha ht (fun a' t' ha' ht' => ?_)
 rw [rcOf_at S ha ht]
 by_cases e : a' = a ∧ t' = (S.P r.toNat).tr
 · obtain ⟨rfl, rfl⟩ := e
   rw [if_pos ⟨rfl, rfl⟩]
   exact Rc.eq (by show ballots _ _ _ = _; rw [ballots_del h hP, if_pos ⟨rfl, rfl⟩]) rfl rfl rfl rfl rfl rfl rfl
 · rw [if_neg e]
   exact Rc.eq (by show ballots _ _ _ = _; rw [ballots_del h hP, if_neg e]; rfl) rfl rfl rfl rfl rfl rfl rfl
theorem rec_polls (S : Vs) {P' : Nat → Pl} (hP : ∀ k, (P' k).tr = (S.P k).tr) : ∀ k, k < 40 → rcOf S k = rcOf { S with P := P' } k :=
 rec_same (fun a' t' _ _ => Rc.eq (by show ballots _ _ _ = ballots _ _ _; unfold ballots; exact tbal_tr hP _ _) rfl rfl rfl rfl rfl rfl rfl)
theorem rec_prior {S : Vs} (h : SrtC S.Q) {a t : Int} (ha : isAcc a) (ht : 0 ≤ t ∧ t < 4) (q : Wgt) : ∀ k, k < 40 → updN (rcOf S) (kOf a t) { rcOf S (kOf a t) with u := q.v, p := q.c } k = rcOf { S with Q := cput S.Q a t q } k := by
 refine updN_rec ha ht (fun a' t' ha' ht' => ?_)
 rw [rcOf_at S ha ht]
 by_cases e : a' = a ∧ t' = t
 · obtain ⟨rfl, rfl⟩ := e
   rw [if_pos ⟨rfl, rfl⟩]
   have e1 : cget (cput S.Q a' t' q) a' t' = some q := by rw [cget_put h, if_pos ⟨rfl, rfl⟩]
   exact Rc.eq rfl rfl rfl rfl rfl rfl (congrArg (fun o : Option Wgt => (o.getD ⟨0, 0⟩).v) e1) (congrArg (fun o : Option Wgt => (o.getD ⟨0, 0⟩).c) e1)
 · rw [if_neg e]
   have e1 : cget (cput S.Q a t q) a' t' = cget S.Q a' t' := by rw [cget_put h, if_neg e]
   exact Rc.eq rfl rfl rfl rfl rfl rfl (congrArg (fun o : Option Wgt => (o.getD ⟨0, 0⟩).v) e1) (congrArg (fun o : Option Wgt => (o.getD ⟨0, 0⟩).c) e1)
theorem rec_noprior {S : Vs} (h : SrtC S.Q) {a t : Int} (ha : isAcc a) (ht : 0 ≤ t ∧ t < 4) : ∀ k, k < 40 → updN (rcOf S) (kOf a t) { rcOf S (kOf a t) with u := 0, p := 0 } k = rcOf { S with Q := cdel S.Q a t } k := by
 refine updN_rec ha ht (fun a' t' ha' ht' => ?_)
 rw [rcOf_at S ha ht]
 by_cases e : a' = a ∧ t' = t
 · obtain ⟨rfl, rfl⟩ := e
   rw [if_pos ⟨rfl, rfl⟩]
   have e1 : cget (cdel S.Q a' t') a' t' = none := by rw [cget_del h, if_pos ⟨rfl, rfl⟩]
   exact Rc.eq rfl rfl rfl rfl rfl rfl (congrArg (fun o : Option Wgt => (o.getD ⟨0, 0⟩).v) e1) (congrArg (fun o : Option Wgt => (o.getD ⟨0, 0⟩).c) e1)
 · rw [if_neg e]
   have e1 : cget (cdel S.Q a t) a' t' = cget S.Q a' t' := by rw [cget_del h, if_neg e]
   exact Rc.eq rfl rfl rfl rfl rfl rfl (congrArg (fun o : Option Wgt => (o.getD ⟨0, 0⟩).v) e1) (congrArg (fun o : Option Wgt => (o.getD ⟨0, 0⟩).c) e1)
theorem rec_lends {S : Vs} (h : SrtC S.D) {a t : Int} (ha : isAcc a) (ht : 0 ≤ t ∧ t < 4) (d : Dlg) : ∀ k, k < 40 → updN (rcOf S) (kOf a t) { rcOf S (kOf a t) with on := true, who := d.to, l := d.l, n := d.n } k = rcOf { S with D := cput S.D a t d } k := by
 refine updN_rec ha ht (fun a' t' ha' ht' => ?_)
 rw [rcOf_at S ha ht]
 by_cases e : a' = a ∧ t' = t
 · obtain ⟨rfl, rfl⟩ := e
   rw [if_pos ⟨rfl, rfl⟩]
   have e1 : cget (cput S.D a' t' d) a' t' = some d := by rw [cget_put h, if_pos ⟨rfl, rfl⟩]
   exact Rc.eq rfl (congrArg (fun o : Option Dlg => o.isSome) e1) (congrArg (fun o : Option Dlg => (o.getD dlgS.zero).to) e1) (congrArg (fun o : Option Dlg => (o.getD dlgS.zero).l) e1) (congrArg (fun o : Option Dlg => (o.getD dlgS.zero).n) e1) rfl rfl rfl
 · rw [if_neg e]
   have e1 : cget (cput S.D a t d) a' t' = cget S.D a' t' := by rw [cget_put h, if_neg e]
   exact Rc.eq rfl (congrArg (fun o : Option Dlg => o.isSome) e1) (congrArg (fun o : Option Dlg => (o.getD dlgS.zero).to) e1) (congrArg (fun o : Option Dlg => (o.getD dlgS.zero).l) e1) (congrArg (fun o : Option Dlg => (o.getD dlgS.zero).n) e1) rfl rfl rfl
theorem rec_lendsNo {S : Vs} (h : SrtC S.D) {a t : Int} (ha : isAcc a) (ht : 0 ≤ t ∧ t < 4) : ∀ k, k < 40 → updN (rcOf S) (kOf a t) { rcOf S (kOf a t) with on := false, who := 0, l := 0, n := 0 } k = rcOf { S with D := cdel S.D a t } k := by
 refine updN_rec ha ht (fun a' t' ha' ht' => ?_)
 rw [rcOf_at S ha ht]
 by_cases e : a' = a ∧ t' = t
 · obtain ⟨rfl, rfl⟩ := e
   rw [if_pos ⟨rfl, rfl⟩]
   have e1 : cget (cdel S.D a' t') a' t' = none := by rw [cget_del h, if_pos ⟨rfl, rfl⟩]
   exact Rc.eq rfl (congrArg (fun o : Option Dlg => o.isSome) e1) (congrArg (fun o : Option Dlg => (o.getD dlgS.zero).to) e1) (congrArg (fun o : Option Dlg => (o.getD dlgS.zero).l) e1) (congrArg (fun o : Option Dlg => (o.getD dlgS.zero).n) e1) rfl rfl rfl
 · rw [if_neg e]
   have e1 : cget (cdel S.D a t) a' t' = cget S.D a' t' := by rw [cget_del h, if_neg e]
   exact Rc.eq rfl (congrArg (fun o : Option Dlg => o.isSome) e1) (congrArg (fun o : Option Dlg => (o.getD dlgS.zero).to) e1) (congrArg (fun o : Option Dlg => (o.getD dlgS.zero).l) e1) (congrArg (fun o : Option Dlg => (o.getD dlgS.zero).n) e1) rfl rfl rfl
theorem rec_got {S : Vs} (h : SrtC S.G) {a t : Int} (ha : isAcc a) (ht : 0 ≤ t ∧ t < 4) (g : Wgt) {P' : Nat → Pl} (hP : ∀ k, (P' k).tr = (S.P k).tr) : ∀ k, k < 40 → updN (rcOf S) (kOf a t) { rcOf S (kOf a t) with g := g } k = rcOf { S with G := cput S.G a t g, P := P' } k := by
 refine updN_rec ha ht (fun a' t' ha' ht' => ?_)
 rw [rcOf_at S ha ht]
 by_cases e : a' = a ∧ t' = t
 · obtain ⟨rfl, rfl⟩ := e
   rw [if_pos ⟨rfl, rfl⟩]
   have e1 : cget (cput S.G a' t' g) a' t' = some g := by rw [cget_put h, if_pos ⟨rfl, rfl⟩]
   exact Rc.eq (by show ballots _ _ _ = ballots _ _ _; unfold ballots; exact tbal_tr hP _ _) rfl rfl rfl rfl (congrArg (fun o : Option Wgt => o.getD ⟨0, 0⟩) e1) rfl rfl
 · rw [if_neg e]
   have e1 : cget (cput S.G a t g) a' t' = cget S.G a' t' := by rw [cget_put h, if_neg e]
   exact Rc.eq (by show ballots _ _ _ = ballots _ _ _; unfold ballots; exact tbal_tr hP _ _) rfl rfl rfl rfl (congrArg (fun o : Option Wgt => o.getD ⟨0, 0⟩) e1) rfl rfl
end
section
open Go.RowKit Go.Maps
section
variable {vy pb rb : Nat} {P P' : Nat → Pl} {R R' : Nat → Rc} {F : FP} {w w' W : World}
set_option maxRecDepth 100000 in
theorem ry_rec (h : RyAt vy pb rb P R F w) {a t : Int} (ha : isAcc a) (ht : 0 ≤ t ∧ t < 4) : Calls Tryz.prog 90 #[.pointer (some ⟨vy, 0, none⟩), .int .i64 a, .int .i64 t] w fun e w' => e = .returned (.pointer (some ⟨rb, kOf a t * 9, none⟩)) ∧ w' = w := by
 obtain ⟨c0, c1⟩ := h.top
 have hk := kOf_lt ha ht
 have hc := kOf_cast ha ht
 obtain ⟨k, hkk⟩ : ∃ k, k = kOf a t := ⟨_, rfl⟩
 rw [← hkk] at hk hc ⊢
 have w1 : IntKind.i64.wrap (a * 4) = a * 4 := IntWalk.i64_in _ (by unfold isAcc at ha; omega)
 have w2 : IntKind.i64.wrap (a * 4 + t) = (k : Int) := by rw [← hc]; exact IntWalk.i64_in _ (by omega)
 have hk' : (k : Int) < 40 := by omega
 clear ha ht hc hkk c0 h
 go_enter Tryz.func90, Tryz.ntmps90
 go_wp2_with fail
 exact bodyPost_ret (v := .pointer (some ⟨rb, k * 9, none⟩)) (by simp [results, Tryz.results90, go_sem]) rfl ⟨rfl, rfl⟩
theorem ry_track (t : Int) (w : World) : Calls Tryz.prog 86 #[.int .i64 t] w fun e w' => e = .returned (.bool (decide (0 ≤ t ∧ t < 4))) ∧ w' = w := by
 by_cases h0 : 0 ≤ t
 · by_cases h1 : t < 4
   · have e : decide (0 ≤ t ∧ t < 4) = true := decide_eq_true ⟨h0, h1⟩
     rw [e]
     go_enter Tryz.func86, Tryz.ntmps86
     go_wp2_with fail
     exact bodyPost_ret (v := .bool true) (by simp [results, Tryz.results86, go_sem]) rfl ⟨rfl, rfl⟩
   · have e : decide (0 ≤ t ∧ t < 4) = false := decide_eq_false (fun q => h1 q.2)
     rw [e]
     go_enter Tryz.func86, Tryz.ntmps86
     go_wp2_with fail
     exact bodyPost_ret (v := .bool false) (by simp [results, Tryz.results86, go_sem]) rfl ⟨rfl, rfl⟩
 · have e : decide (0 ≤ t ∧ t < 4) = false := decide_eq_false (fun q => h0 q.1)
   rw [e]
   go_enter Tryz.func86, Tryz.ntmps86
   go_wp2_with fail
   exact bodyPost_ret (v := .bool false) (by simp [results, Tryz.results86, go_sem]) rfl ⟨rfl, rfl⟩
theorem ry_Has (h : RyAt vy pb rb P R F w) (r : Int) : Calls Tryz.prog 11 #[.pointer (some ⟨vy, 0, none⟩), .int .i64 r] w fun e w' => e = .returned (.bool (decide (plHas P r))) ∧ w' = w := by
 by_cases h0 : 0 ≤ r
 · by_cases h1 : r < 12
   · obtain ⟨k, rfl⟩ : ∃ k : Nat, r = k := ⟨r.toNat, by omega⟩
     have hk : k < 12 := by omega
     obtain ⟨c0, c1⟩ := h.top
     have p0 := (h.poll hk).1
     have e : decide (plHas P k) = decide ((P k).st ≠ 0) := by
      rw [decide_eq_decide]
      unfold plHas
      simp [h0, h1]
     rw [e]
     obtain ⟨b, hb⟩ : ∃ b, b = decide ((P k).st ≠ 0) := ⟨_, rfl⟩
     rw [← hb] at p0 ⊢
     clear hb e c1 h
     go_enter Tryz.func11, Tryz.ntmps11
     go_wp2_with fail
     exact bodyPost_ret (v := .bool b) (by simp [results, Tryz.results11, go_sem]) rfl ⟨rfl, rfl⟩
   · have e : decide (plHas P r) = false := decide_eq_false (fun q => h1 q.1.2)
     rw [e]
     clear h
     go_enter Tryz.func11, Tryz.ntmps11
     go_wp2_with fail
     exact bodyPost_ret (v := .bool false) (by simp [results, Tryz.results11, go_sem]) rfl ⟨rfl, rfl⟩
 · have e : decide (plHas P r) = false := decide_eq_false (fun q => h0 q.1.1)
   rw [e]
   clear h
   go_enter Tryz.func11, Tryz.ntmps11
   go_wp2_with fail
   exact bodyPost_ret (v := .bool false) (by simp [results, Tryz.results11, go_sem]) rfl ⟨rfl, rfl⟩
theorem ry_open (h : RyAt vy pb rb P R F w) {k : Nat} (hk : k < 12) : Calls Tryz.prog 87 #[.pointer (some ⟨vy, 0, none⟩), .int .i64 k] w fun e w' => e = .returned (.bool ((P k).st == 1)) ∧ w' = w := by
 obtain ⟨c0, c1⟩ := h.top
 have p0 := (h.poll hk).2.2.1
 obtain ⟨s, hs⟩ : ∃ s, s = (P k).st := ⟨_, rfl⟩
 rw [← hs] at p0 ⊢
 have hk' : (k : Int) < 12 := by omega
 clear hs c1 h
 go_enter Tryz.func87, Tryz.ntmps87
 go_wp2_with fail
 exact bodyPost_ret (v := .bool (s == 1)) (by simp [results, Tryz.results87, go_sem]) rfl ⟨rfl, rfl⟩
def storePo (a v : Value) : Sem Unit := Instr.storeAt 43 a v
theorem storePo_hide (a v : Value) : Instr.storeAt 43 a v = storePo a v := rfl
theorem run_storePo {w : World} {b k : Nat} (h : w.there b k 7) (p : Pl) : (storePo (.pointer (some ⟨b, k, none⟩)) (.agg (poL p).toArray)).run Tryz.prog w = .ok () (w.setCells b k (poL p)) :=
 run_storeAt_mid w b k 43 (poL p).toArray h (by kernel_rfl) (by simp [poL, Value.oneCell'])
end
end
section
open Go.RowKit Go.Maps
def aSets (C : Array Value) (o : Nat) : List Value → Array Value
 | [] => C
 | v :: vs => aSets (C.setIfInBounds o v) (o + 1) vs
def lSets (l : List Value) (o : Nat) : List Value → List Value
 | [] => l
 | v :: vs => lSets (l.set o v) (o + 1) vs
theorem block_sets {b : Nat} {t : TypeId} {fr : Nat × Nat} : ∀ (vs : List Value) (o : Nat) (w : World) (C : Array Value), w.heap[b]? = some (.cells C t fr) → (w.setCells b o vs).heap[b]? = some (.cells (aSets C o vs) t fr)
 | [], o, w, C, h => h
 | v :: vs, o, w, C, h => block_sets vs (o + 1) _ _ (block_set v h)
theorem updN_updN {α : Type} (f : Nat → α) (k : Nat) (x y : α) : updN (updN f k x) k y = updN f k y := by funext i; by_cases h : i = k <;> simp [updN, h]
theorem Tab.sets {n m k : Nat} (hk : k < n) : ∀ (vs : List Value) (o : Nat) (f : Nat → List Value) (C : Array Value), Tab n m f C → o + vs.length ≤ m → Tab n m (updN f k (lSets (f k) o vs)) (aSets C (k * m + o) vs)
 | [], o, f, C, h, _ => h.congr (fun i hi => by by_cases e : i = k; (subst e; rw [updN_same]; rfl); rw [updN_other _ _ e])
 | v :: vs, o, f, C, h, hl => by
  simp only [List.length_cons] at hl
  have h1 := Tab.sets hk vs (o + 1) _ _ (h.set hk (j := o) (by omega) v) (by omega)
  rw [updN_updN, updN_same] at h1
  exact h1
section
variable {vy pb rb : Nat} {P P' : Nat → Pl} {R R' : Nat → Rc} {F : FP} {w w' W : World}
theorem setCells_size (b : Nat) (vs : List Value) (o : Nat) (w : World) : (w.setCells b o vs).heap.size = w.heap.size := by
 induction vs generalizing o w with
 | nil => rfl
 | cons v vs ih => exact (ih (o + 1) _).trans (by simp [World.setCell])
theorem RyAt.setPs (h : RyAt vy pb rb P R F w) {k o : Nat} (hk : k < 12) {vs : List Value} (ho : o + vs.length ≤ 7) {p' : Pl} (hu : poL p' = lSets (poL (P k)) o vs) : RyAt vy pb rb (putP P k p') R F (w.setCells pb (k * 7 + o) vs) := by
 obtain ⟨us, Cp, Cr, h1, h2, h3, h4, h5, h6, h7, h8, h9, h10, h11, h12, h13⟩ := h
 have hof : ∀ i, i ≠ pb → (w.setCells pb (k * 7 + o) vs).heap[i]? = w.heap[i]? := fun i hi => setCells_off hi _ _ _
 have hs := setCells_size pb vs (k * 7 + o) w
 refine ⟨us, aSets Cp (k * 7 + o) vs, Cr, (hof vy h10).trans h1, block_sets _ _ _ _ h2, (hof rb (fun e => h12 e.symm)).trans h3, (Tab.sets hk vs o _ _ h4 ho).congr (fun i hi => ?_), h5, fun i hi => ⟨(h6 i hi).1.keep (by omega) (fun b hb => hof b ((h6 i hi).2 b hb).2.2.1), (h6 i hi).2⟩, h7, h8, h9, h10, h11, h12, fun i hi => by rw [hs]; exact h13 i hi⟩
 by_cases e : i = k
 · subst e; rw [updN_same, putP_same, hu]
 · rw [updN_other _ _ e, putP_other _ _ e]
theorem RyAt.setRs (h : RyAt vy pb rb P R F w) {k o : Nat} (hk : k < 40) {vs : List Value} (ho : o + vs.length ≤ 9) {r' : Rc} (hu : ∀ v, rcL v r' = lSets (rcL v (R k)) o vs) (hc : r'.c = (R k).c) : RyAt vy pb rb P (updN R k r') F (w.setCells rb (k * 9 + o) vs) := by
 obtain ⟨us, Cp, Cr, h1, h2, h3, h4, h5, h6, h7, h8, h9, h10, h11, h12, h13⟩ := h
 have hof : ∀ i, i ≠ rb → (w.setCells rb (k * 9 + o) vs).heap[i]? = w.heap[i]? := fun i hi => setCells_off hi _ _ _
 have hs := setCells_size rb vs (k * 9 + o) w
 refine ⟨us, Cp, aSets Cr (k * 9 + o) vs, (hof vy h11).trans h1, (hof pb h12).trans h2, block_sets _ _ _ _ h3, h4, (Tab.sets hk vs o _ _ h5 ho).congr (fun i hi => ?_), fun i hi => ⟨?_, (h6 i hi).2⟩, h7, h8, h9, h10, h11, h12, fun i hi => by rw [hs]; exact h13 i hi⟩
 · by_cases e : i = k
   · subst e; rw [updN_same, updN_same, hu]
   · rw [updN_other _ _ e, updN_other _ _ e]
 · have := (h6 i hi).1.keep (w' := w.setCells rb (k * 9 + o) vs) (by omega) (fun b hb => hof b ((h6 i hi).2 b hb).2.2.2)
   by_cases e : i = k
   · subst e; rw [updN_same, hc]; exact this
   · rw [updN_other _ _ e]; exact this
theorem only_setsR {F : FP} {b o : Nat} {vs : List Value} (h : F b) : Only F (fun _ => False) w (w.setCells b o vs) :=
 ⟨setCells_grow _ _ _, fun k hk h1 _ => setCells_off (b := b) (k := k) (fun e => h1 (by rw [e]; exact h)) _ _ _⟩
theorem ry_setPs (h : (ryM vy pb rb P R).to F w W) {k o : Nat} (hk : k < 12) {vs : List Value} (ho : o + vs.length ≤ 7) {p' : Pl} (hu : poL p' = lSets (poL (P k)) o vs) : (ryM vy pb rb (putP P k p') R).to F w (W.setCells pb (k * 7 + o) vs) :=
 ry_step (F' := F) h (fun F1 h1 => ⟨F1, h1.setPs hk ho hu, fun k hk => .inl hk, only_setsR h1.own.2.1⟩)
theorem ry_setRs (h : (ryM vy pb rb P R).to F w W) {k o : Nat} (hk : k < 40) {vs : List Value} (ho : o + vs.length ≤ 9) {r' : Rc} (hu : ∀ v, rcL v r' = lSets (rcL v (R k)) o vs) (hc : r'.c = (R k).c) : (ryM vy pb rb P (updN R k r')).to F w (W.setCells rb (k * 9 + o) vs) :=
 ry_step (F' := F) h (fun F1 h1 => ⟨F1, h1.setRs hk ho hu hc, fun k hk => .inl hk, only_setsR h1.own.2.2.1⟩)
theorem RyAt.pthere (h : RyAt vy pb rb P R F w) {k o n : Nat} (hk : k < 12) (hn : o + n ≤ 7) : w.there pb (k * 7 + o) n := fun i hi => by
 refine ⟨?_, (h.frozen _).1⟩
 obtain ⟨vs, Cp, Cr, h1, h2, h3, h4, -⟩ := h
 have := h4.1
 have : k * 7 + o + i < Cp.size := by omega
 simp [World.cell?, h2, this]
theorem RyAt.rthere (h : RyAt vy pb rb P R F w) {k o n : Nat} (hk : k < 40) (hn : o + n ≤ 9) : w.there rb (k * 9 + o) n := fun i hi => by
 refine ⟨?_, (h.frozen _).2⟩
 obtain ⟨vs, Cp, Cr, h1, h2, h3, h4, h5, -⟩ := h
 have := h5.1
 have : k * 9 + o + i < Cr.size := by omega
 simp [World.cell?, h3, this]
def openP (P : Nat → Pl) (r t : Int) : Nat → Pl := if openE P r t = 0 then putP P r.toNat (newPl t) else P
set_option maxRecDepth 100000 in
attribute [local go_sem ↓] storePo_hide in
theorem ry_Open (h : RyAt vy pb rb P R F w) (r t : Int) : Calls Tryz.prog 31 #[.pointer (some ⟨vy, 0, none⟩), .int .i64 r, .int .i64 t] w fun e w' => e = .returned (.int .i64 (openE P r t)) ∧ (ryM vy pb rb (openP P r t) R).to F w w' := by
 have HH := Lib.hid h
 unfold openP
 by_cases hr : 0 ≤ r ∧ r < 12
 · obtain ⟨hr0, hr1⟩ := hr
   have HT := Lib.hid (ry_track t)
   by_cases ht : 0 ≤ t ∧ t < 4
   · obtain ⟨k, rfl⟩ : ∃ k : Nat, r = k := ⟨r.toNat, by omega⟩
     have hk : k < 12 := by omega
     obtain ⟨c0, c1⟩ := h.top
     have p0 := (h.poll hk).1
     have hd : decide (0 ≤ t ∧ t < 4) = true := decide_eq_true ht
     have HD := Lib.hid hd
     by_cases hs : (P k).st = 0
     · have e : openE P k t = 0 := by unfold openE; rw [if_neg (by simp; omega), if_neg (by simpa using hs)]
       rw [if_pos e, e, Int.toNat_natCast]
       rw [show decide ((P k).st ≠ 0) = false from decide_eq_false (fun q => q hs)] at p0
       have rs := run_storePo (h.pthere (o := 0) hk (by omega)) (newPl t)
       have hto := ry_setPs (ry_refl h) (o := 0) hk (vs := poL (newPl t)) (by show 0 + 7 ≤ 7; omega) (p' := newPl t) rfl
       unfold poL newPl at rs hto
       simp only [Nat.add_zero, ne_eq, Int.reduceEq, not_false_eq_true, decide_true] at rs hto
       have HRS := Lib.hid rs
       have HTO := Lib.hid hto
       clear ht hd hs e rs hto c1 h
       have rs := HRS.out
       go_enter Tryz.func31, Tryz.ntmps31
       go_wp2_with (first
        | (go_at_call 86; refine (HT.out _).mono ?_; rw [HD.out]; rintro e w' ⟨rfl, hw⟩; rw [hw]; clear hw w')
        | fail)
       exact bodyPost_ret (v := .int .i64 0) (by simp [results, Tryz.results31, go_sem]) rfl ⟨rfl, HTO.out⟩
     · have e : openE P k t = 5 := by unfold openE; rw [if_neg (by simp; omega), if_pos (by simpa using hs)]
       rw [if_neg (by rw [e]; decide), e]
       rw [show decide ((P k).st ≠ 0) = true from decide_eq_true hs] at p0
       clear ht hd hs e c1 h
       go_enter Tryz.func31, Tryz.ntmps31
       go_wp2_with (first
        | (go_at_call 86; refine (HT.out _).mono ?_; rw [HD.out]; rintro e w' ⟨rfl, hw⟩; rw [hw]; clear hw w')
        | fail)
       exact bodyPost_ret (v := .int .i64 5) (by simp [results, Tryz.results31, go_sem]) rfl ⟨rfl, ry_refl HH.out⟩
   · have hd : decide (0 ≤ t ∧ t < 4) = false := decide_eq_false ht
     have HD := Lib.hid hd
     have e : openE P r t = 1 := by unfold openE; rw [if_pos (.inr ht)]
     rw [if_neg (by rw [e]; decide), e]
     clear ht hd e h
     go_enter Tryz.func31, Tryz.ntmps31
     go_wp2_with (first
      | (go_at_call 86; refine (HT.out _).mono ?_; rw [HD.out]; rintro e w' ⟨rfl, hw⟩; rw [hw]; clear hw w')
      | fail)
     exact bodyPost_ret (v := .int .i64 1) (by simp [results, Tryz.results31, go_sem]) rfl ⟨rfl, ry_refl HH.out⟩
 · have e : openE P r t = 1 := by unfold openE; rw [if_pos (.inl hr)]
   rw [if_neg (by rw [e]; decide), e]
   have hx : r < 0 ∨ (¬ r < 0 ∧ 12 ≤ r) := by omega
   clear e hr h
   rcases hx with hx | ⟨hx, hy⟩
   all_goals
    go_enter Tryz.func31, Tryz.ntmps31
    go_wp2_with fail
    exact bodyPost_ret (v := .int .i64 1) (by simp [results, Tryz.results31, go_sem]) rfl ⟨rfl, ry_refl HH.out⟩
def closeP (P : Nat → Pl) (r st en : Int) : Nat → Pl := if closeE P r st = 0 then putP P r.toNat ⟨st, (P r.toNat).tr, (P r.toNat).ay, (P r.toNat).na, (P r.toNat).su, en⟩ else P
set_option maxRecDepth 100000 in
set_option maxHeartbeats 2000000 in
theorem ry_Close (h : RyAt vy pb rb P R F w) (r st en : Int) : Calls Tryz.prog 32 #[.pointer (some ⟨vy, 0, none⟩), .int .i64 r, .int .i64 st, .int .i64 en] w fun e w' => e = .returned (.int .i64 (closeE P r st)) ∧ (ryM vy pb rb (closeP P r st en) R).to F w w' := by
 have HH := Lib.hid h
 unfold closeP
 have hhas := ry_Has h r
 by_cases hr : plHas P r
 · rw [decide_eq_true hr] at hhas
   obtain ⟨k, rfl⟩ : ∃ k : Nat, r = k := ⟨r.toNat, by have := hr.1; omega⟩
   have hk : k < 12 := by have := hr.1; omega
   have hst0 : (P k).st ≠ 0 := by simpa using hr.2
   have hop := ry_open h hk
   by_cases hs : (P k).st = 1
   · rw [show ((P k).st == 1) = true by simp [hs]] at hop
     by_cases h2 : 2 ≤ st ∧ st ≤ 6
     · have e : closeE P k st = 0 := by unfold closeE; rw [if_neg (by rw [Int.toNat_natCast]; exact fun q => q ⟨hr.1, hst0⟩), if_neg (by rw [Int.toNat_natCast]; exact fun q => q hs), if_neg (fun q => q h2)]
       rw [if_pos e, e, Int.toNat_natCast]
       obtain ⟨g1, g2⟩ := h2
       obtain ⟨c0, c1⟩ := h.top
       obtain ⟨q0, q1, q2, q3, -⟩ := h.poll hk
       have hq1 := ry_setP (ry_refl h) (j := 2) hk (by omega) (u := .int .i64 st) (p' := ⟨st, (P k).tr, (P k).ay, (P k).na, (P k).su, (P k).en⟩) (by unfold poL; rw [decide_eq_true hst0, decide_eq_true (show st ≠ 0 by omega)]; rfl)
       have hq2 := ry_setP hq1 (j := 3) hk (by omega) (u := .int .i64 en) (p' := ⟨st, (P k).tr, (P k).ay, (P k).na, (P k).su, en⟩) (by rw [putP_same]; rfl)
       rw [putP_putP] at hq2
       have f2 := (h.frozen (k * 7 + 2)).1
       have f3 := (h.frozen (k * 7 + 3)).1
       have HHAS := Lib.hid hhas
       have HOP := Lib.hid hop
       have HQ2 := Lib.hid hq2
       have hne := h.own.2.2.2.1
       have hkI : (k : Int) < 12 := by omega
       have g3 : ¬ st < 2 := by omega
       have g4 : ¬ 6 < st := by omega
       clear hr hst0 hs hhas hop hq1 hq2 e g1 g2 h q0 q1 c1
       go_enter Tryz.func32, Tryz.ntmps32
       go_upto_region 7 with (first
        | (go_at_call 11; refine HHAS.out.mono ?_; rintro e w' ⟨rfl, hw⟩; rw [hw]; clear hw w')
        | (go_at_call 87; refine HOP.out.mono ?_; rintro e w' ⟨rfl, hw⟩; rw [hw]; clear hw w')
        | fail)
       go_region
       go_wp2_with fail
       exact bodyPost_ret (v := .int .i64 0) (by simp [results, Tryz.results32, go_sem]) rfl ⟨rfl, by first | exact HQ2.out | exact ry_below HQ2.out (Below.refl _ _).drew⟩
     · have e : closeE P k st = 1 := by unfold closeE; rw [if_neg (by rw [Int.toNat_natCast]; exact fun q => q ⟨hr.1, hst0⟩), if_neg (by rw [Int.toNat_natCast]; exact fun q => q hs), if_pos h2]
       rw [if_neg (by rw [e]; decide), e]
       have hx : st < 2 ∨ (¬ st < 2 ∧ 6 < st) := by omega
       have HHAS := Lib.hid hhas
       have HOP := Lib.hid hop
       clear hr hst0 hs hhas hop e h2 h
       rcases hx with hx | ⟨hx, hy⟩
       all_goals
        go_enter Tryz.func32, Tryz.ntmps32
        go_wp2_with (first
         | (go_at_call 11; refine HHAS.out.mono ?_; rintro e w' ⟨rfl, hw⟩; rw [hw]; clear hw w')
         | (go_at_call 87; refine HOP.out.mono ?_; rintro e w' ⟨rfl, hw⟩; rw [hw]; clear hw w')
         | fail)
        exact bodyPost_ret (v := .int .i64 1) (by simp [results, Tryz.results32, go_sem]) rfl ⟨rfl, ry_refl HH.out⟩
   · rw [show ((P k).st == 1) = false by simp [hs]] at hop
     have e : closeE P k st = 9 := by unfold closeE; rw [if_neg (by rw [Int.toNat_natCast]; exact fun q => q ⟨hr.1, hst0⟩), if_pos (by rw [Int.toNat_natCast]; exact hs)]
     rw [if_neg (by rw [e]; decide), e]
     have HHAS := Lib.hid hhas
     have HOP := Lib.hid hop
     clear hr hst0 hs hhas hop e h
     go_enter Tryz.func32, Tryz.ntmps32
     go_wp2_with (first
      | (go_at_call 11; refine HHAS.out.mono ?_; rintro e w' ⟨rfl, hw⟩; rw [hw]; clear hw w')
      | (go_at_call 87; refine HOP.out.mono ?_; rintro e w' ⟨rfl, hw⟩; rw [hw]; clear hw w')
      | fail)
     exact bodyPost_ret (v := .int .i64 9) (by simp [results, Tryz.results32, go_sem]) rfl ⟨rfl, ry_refl HH.out⟩
 · rw [decide_eq_false hr] at hhas
   have e : closeE P r st = 4 := by unfold closeE; exact if_pos hr
   rw [if_neg (by rw [e]; decide), e]
   have HHAS := Lib.hid hhas
   clear hr hhas e h
   go_enter Tryz.func32, Tryz.ntmps32
   go_wp2_with (first
    | (go_at_call 11; refine HHAS.out.mono ?_; rintro e w' ⟨rfl, hw⟩; rw [hw]; clear hw w')
    | fail)
   exact bodyPost_ret (v := .int .i64 4) (by simp [results, Tryz.results32, go_sem]) rfl ⟨rfl, ry_refl HH.out⟩
end
end
section
open Go.RowKit Go.Maps
section
variable {vy pb rb : Nat} {P P' : Nat → Pl} {R R' : Nat → Rc} {F : FP} {w w' W : World}
set_option maxRecDepth 100000 in
set_option maxHeartbeats 2000000 in
theorem ry_place (h : RyAt vy pb rb P R F w) {k : Nat} (hk : k < 40) (hs : SrtK (R k).c) (hl : (R k).c.length ≤ 1000) (ref : Int) : Calls Tryz.prog 91 #[.pointer (some ⟨rb, k * 9, none⟩), .int .i64 ref] w fun e w' => e = .returned (.tuple #[.int .i64 (placeN (R k).c ref), .bool (placeB (R k).c ref)]) ∧ Below w.heap.size w w' := by
 obtain ⟨v, hrd, c0, -⟩ := h.rec hk
 obtain ⟨xs, hxs⟩ : ∃ xs, xs = (R k).c := ⟨_, rfl⟩
 rw [← hxs] at hrd hs hl ⊢
 obtain ⟨ao, cap, rfl⟩ := hrd.lenOf
 obtain ⟨n, hn⟩ : ∃ n, n = xs.length := ⟨_, rfl⟩
 rw [← hn] at hrd c0 hl
 have HRD := Lib.hid (And.intro hrd hn)
 have HS := Lib.hid hs
 clear hrd hn hs hxs h
 go_enter Tryz.func91, Tryz.ntmps91
 go_wp2_with fail
 go_loopw [6] (fun i wr => ∃ j : Nat, j ≤ n ∧ i = .int .i64 j ∧ wr = w ∧ ∀ i, i < j → ∃ y, xs[i]? = some y ∧ y.1 < ref) (fun i _ => n - (intOf i).toNat)
 case atStart => exact ⟨0, by omega, rfl, rfl, fun i hi => by omega⟩
 case round =>
  obtain ⟨j, hj, rfl, rfl, hpre⟩ := hrel
  have HPRE := Lib.hid hpre
  clear hpre
  by_cases hlt : j < n
  · have g1 : (j : Int) < n := by omega
    obtain ⟨b, off, rfl, hr, hb⟩ := HRD.out.1.at (show j < xs.length by rw [← HRD.out.2]; exact hlt)
    obtain ⟨x, hx⟩ : ∃ x, x = xs[j]'(by rw [← HRD.out.2]; exact hlt) := ⟨_, rfl⟩
    rw [← hx] at hr
    have hx2 : xs[j]? = some x := by rw [hx]; exact List.getElem?_eq_getElem _
    have d0 : wr.cell? ⟨b, off + j * 7, none⟩ = some (.int .i64 x.1) := hr 0 _ rfl
    obtain ⟨z, hz⟩ : ∃ z, z = x.1 := ⟨_, rfl⟩
    rw [← hz] at d0
    have HX := Lib.hid (And.intro hx2 hz)
    clear hx hr hx2 hz hb
    by_cases hlt2 : z < ref
    · go_wp2_with fail
      go_roundw
      case rel => exact ⟨j + 1, by omega, by go_num, by first | rfl | trivial, fun i hi => by
       by_cases e : i = j
       · rw [e]; exact ⟨x, HX.out.1, by rw [← HX.out.2]; exact hlt2⟩
       · exact HPRE.out i (by omega)⟩
      case measure => simp [intOf]; omega
    · have hpl : placeN xs ref = j := placeN_is HPRE.out (fun y hy => by rw [HX.out.1] at hy; injection hy with hy; rw [← hy, ← HX.out.2]; exact hlt2)
      have hpb : placeB xs ref = (z == ref) := by
       by_cases e : z = ref
       · rw [(place_there HS.out).2 ⟨x, by rw [hpl]; exact HX.out.1, by rw [← HX.out.2]; exact e⟩]; simp [e]
       · have : ¬ placeB xs ref = true := fun q => by
          obtain ⟨y, hy, he⟩ := (place_there HS.out).1 q
          rw [hpl, HX.out.1] at hy
          injection hy with hy
          exact e (by rw [HX.out.2, hy]; exact he)
         simp at this
         rw [this]; simp [e]
      obtain ⟨q, hq⟩ : ∃ q, q = (z == ref) := ⟨_, rfl⟩
      rw [← hq] at hpb
      have hq' := hq.symm
      have HPL := Lib.hid (And.intro hpl hpb)
      clear hpl hpb hq
      go_upto_region 4 with fail
      go_quiet (fail)
      go_wp2_with fail
      have hfin : Ending.returned (.tuple #[.int .i64 j, .bool q]) = Ending.returned (.tuple #[.int .i64 (placeN xs ref), .bool (placeB xs ref)]) := by rw [HPL.out.1, HPL.out.2]
      exact bodyPost_ret (v := .tuple #[.int .i64 j, .bool q]) (by simp [results, Tryz.results91, go_sem]) rfl ⟨hfin, below_dn (Below.refl _ wr) _⟩
  · obtain rfl : j = n := by omega
    have g1 : ¬ (j : Int) < j := by omega
    have hno : xs[j]? = none := List.getElem?_eq_none (by rw [← HRD.out.2]; exact Nat.le_refl _)
    have hpl : placeN xs ref = j := placeN_is HPRE.out (fun y hy => by rw [hno] at hy; cases hy)
    have hpb : placeB xs ref = false := by
     have : ¬ placeB xs ref = true := fun q => by
      obtain ⟨y, hy, he⟩ := (place_there HS.out).1 q
      rw [hpl, hno] at hy
      cases hy
     simpa using this
    have hfin : Ending.returned (.tuple #[.int .i64 j, .bool false]) = Ending.returned (.tuple #[.int .i64 (placeN xs ref), .bool (placeB xs ref)]) := by rw [hpl, hpb]
    have HFIN := Lib.hid hfin
    clear hpl hpb hno hfin
    go_upto_region 4 with fail
    go_quiet (fail)
    go_wp2_with fail
    exact bodyPost_ret (v := .tuple #[.int .i64 j, .bool false]) (by simp [results, Tryz.results91, go_sem]) rfl ⟨HFIN.out, below_dn (Below.refl _ wr) _⟩
set_option maxRecDepth 100000 in
theorem ry_won (on : Bool) (tr st en ay na su : Int) (x : Bal) (w : World) : Calls Tryz.prog 95 #[.agg #[.bool on, .int .i64 tr, .int .i64 st, .int .i64 en, .int .i64 ay, .int .i64 na, .int .i64 su], .agg #[.int .i64 x.k, .bool x.aye, .int .i64 x.l, .int .i64 x.a, .int .i64 x.n, .int .i64 x.s]] w fun e w' => e = .returned (.bool (wonB st x)) ∧ Below w.heap.size w w' := by
 obtain ⟨xk, xy, xl, xa, xn, xs⟩ := x
 unfold wonB
 dsimp only
 have hb : Below w.heap.size w ((w.alloc (.cells #[.bool on, .int .i64 tr, .int .i64 st, .int .i64 en, .int .i64 ay, .int .i64 na, .int .i64 su] 43)).alloc (.cells #[.int .i64 xk, .bool xy, .int .i64 xl, .int .i64 xa, .int .i64 xn, .int .i64 xs] 28)) := ((Below.refl _ w).alloc (Nat.le_refl _) _).alloc (by simp) _
 have HB := Lib.hid hb
 clear hb
 by_cases h1 : xk = 1
 · subst h1
   rw [if_pos rfl]
   cases xy
   · rw [if_neg (by decide)]
     by_cases h2 : st = 2
     · subst h2
       go_enter Tryz.func95, Tryz.ntmps95
       go_wp2_with fail
       exact bodyPost_ret (v := .bool false) (by simp [results, Tryz.results95, go_sem]) rfl ⟨rfl, HB.out⟩
     · have g2 : (st == 2) = false := by simp [h2]
       obtain ⟨q, hq⟩ : ∃ q, q = (st == 3) := ⟨_, rfl⟩
       rw [← hq]
       have g3 := hq.symm
       clear hq h2
       cases q
       · go_enter Tryz.func95, Tryz.ntmps95
         go_wp2_with fail
         exact bodyPost_ret (v := .bool false) (by simp [results, Tryz.results95, go_sem]) rfl ⟨rfl, HB.out⟩
       · go_enter Tryz.func95, Tryz.ntmps95
         go_wp2_with fail
         exact bodyPost_ret (v := .bool true) (by simp [results, Tryz.results95, go_sem]) rfl ⟨rfl, HB.out⟩
   · rw [if_pos rfl]
     by_cases h2 : st = 2
     · subst h2
       go_enter Tryz.func95, Tryz.ntmps95
       go_wp2_with fail
       exact bodyPost_ret (v := .bool true) (by simp [results, Tryz.results95, go_sem]) rfl ⟨rfl, HB.out⟩
     · have g2 : (st == 2) = false := by simp [h2]
       rw [g2]
       clear h2
       obtain ⟨q, hq⟩ : ∃ q, q = (st == 3) := ⟨_, rfl⟩
       have g3 := hq.symm
       clear hq
       cases q
       · go_enter Tryz.func95, Tryz.ntmps95
         go_wp2_with fail
         exact bodyPost_ret (v := .bool false) (by simp [results, Tryz.results95, go_sem]) rfl ⟨rfl, HB.out⟩
       · go_enter Tryz.func95, Tryz.ntmps95
         go_wp2_with fail
         exact bodyPost_ret (v := .bool false) (by simp [results, Tryz.results95, go_sem]) rfl ⟨rfl, HB.out⟩
 · rw [if_neg h1]
   have g1 : (xk == 1) = false := by simp [h1]
   clear h1
   go_enter Tryz.func95, Tryz.ntmps95
   go_wp2_with fail
   exact bodyPost_ret (v := .bool false) (by simp [results, Tryz.results95, go_sem]) rfl ⟨rfl, HB.out⟩
set_option maxRecDepth 100000 in
set_option maxHeartbeats 2000000 in
theorem ry_join (h : RyAt vy pb rb P R F w) {k : Nat} (hk : k < 40) (u n : Int) : Calls Tryz.prog 96 #[.pointer (some ⟨rb, k * 9, none⟩), .int .i64 u, .int .i64 n] w fun e w' => e = .returned (.tuple #[]) ∧ (ryM vy pb rb P (updN R k { R k with u := max (R k).u u, p := max (R k).p n })).to F w w' := by
 obtain ⟨v, hrd, -, -, -, -, -, -, -, c7, c8⟩ := h.rec hk
 have h1 := ry_setR (ry_refl h) (j := 7) hk (by omega) (u := .int .i64 (max (R k).u u)) (r' := { R k with u := max (R k).u u }) (fun v => rfl) rfl
 have h2 := ry_setR h1 (j := 8) hk (by omega) (u := .int .i64 (max (R k).p n)) (r' := { R k with u := max (R k).u u, p := max (R k).p n }) (fun v => by rw [updN_same]; rfl) (by rw [updN_same])
 rw [updN_updN] at h2
 obtain ⟨ou, hou⟩ : ∃ z, z = (R k).u := ⟨_, rfl⟩
 obtain ⟨op, hop⟩ : ∃ z, z = (R k).p := ⟨_, rfl⟩
 rw [← hou, ← hop] at h2 ⊢
 rw [← hou] at c7
 rw [← hop] at c8
 obtain ⟨m1, hm1⟩ : ∃ m, m = max ou u := ⟨_, rfl⟩
 obtain ⟨m2, hm2⟩ : ∃ m, m = max op n := ⟨_, rfl⟩
 have A1 : max ou u = m1 := hm1.symm
 have A2 : (if ou < u then u else ou) = m1 := by rw [hm1]; split <;> omega
 have B1 : max op n = m2 := hm2.symm
 have B2 : (if op < n then n else op) = m2 := by rw [hm2]; split <;> omega
 rw [A1, B1] at h2 ⊢
 have f7 := (h.frozen (k * 9 + 7)).2
 have f8 := (h.frozen (k * 9 + 8)).2
 have H2 := Lib.hid h2
 clear h1 h2 hm1 hm2 hou hop hrd h
 go_enter Tryz.func96, Tryz.ntmps96
 go_region
 go_wp2_with fail
 exact bodyPost_end (results_none rfl _ _ _) rfl ⟨rfl, by first | exact H2.out | exact ry_below H2.out (Below.refl _ _).drew⟩
end
end
section
end
end Go.Proofs.YtbpemdihoabbcaaGreat
