/-
  Plain: a value that is no child keeps its place: taking a child away for none leaves all other children as they were ('places').
  Conditions: fewer children than there may be; the one that is taken away has no key.
  Walks: NormPlaces returns true: a value that is no child keeps its place.
  Conditions: the list lies in memory; the three tables hold what the program's text lays in them.
-/
import Derived.Test.YtpmkkgndpfbkdaaDoorNkR
import Derived.Test.YtpmkkgndpfbkdaaDoorNkV
import Derived.Deep.RegionHeld3
namespace Go.Proofs.YtpmkkgndpfbkdaaDoor
set_option linter.unusedVariables false
set_option linter.unusedSimpArgs false
open Go.RowKit Go.Deep Go.WideShapes

theorem run_mono : ∀ (vs : List V) (s : St), s.out.length ≤ (runK s vs).out.length
  | [], s => Nat.le_refl _
  | v :: r, s => by
    have h := out_step s v
    rw [runK]
    split
    · omega
    · have := run_mono r (stepK s v)
      omega
theorem run_app : ∀ (P R : List V) (s : St), (runK s P).out.length < 4096 → runK s (P ++ R) = runK (runK s P) R
  | [], R, s, _ => rfl
  | v :: P, R, s, h => by
    rw [List.cons_append, runK, runK]
    rw [runK] at h
    split at h
    · rename_i h9; omega
    · rename_i h9
      rw [if_neg h9, if_neg h9]
      exact run_app P R _ h
theorem run_pre_le (P R : List V) (s : St) (hs : s.out.length < 4096) (h : (runK s (P ++ R)).out.length < 4096) : (runK s P).out.length < 4096 := by
  induction P generalizing s with
  | nil => exact hs
  | cons v P ih =>
    rw [List.cons_append, runK] at h
    rw [runK]
    split at h
    · omega
    · rename_i h9
      rw [if_neg h9]
      refine ih _ ?_ h
      have := run_mono (P ++ R) (stepK s v)
      omega

theorem ins_run (c : C) : ∀ (vs : List V) (s t : St) (X Y : List C), s.place = t.place → s.seen = t.seen → s.out = X ++ c :: Y → t.out = X ++ Y → (runK s vs).out.length < 4096 → ∃ Y', (runK s vs).out = X ++ c :: Y' ∧ (runK t vs).out = X ++ Y'
  | [], s, t, X, Y, _, _, h1, h2, _ => ⟨Y, h1, h2⟩
  | v :: r, s, t, X, Y, hp, hn, h1, h2, hl => by
    have hm := run_mono r (stepK s v)
    have hst : ∃ Y1, (stepK s v).place = (stepK t v).place ∧ (stepK s v).seen = (stepK t v).seen ∧ (stepK s v).out = X ++ c :: Y1 ∧ (stepK t v).out = X ++ Y1 := by
      unfold stepK
      cases v.kid with
      | none => exact ⟨Y, by rw [hp], hn, h1, h2⟩
      | some d => exact ⟨Y ++ [⟨(keyM s.seen v (wrap64 s.place)).1, d.kind, d.name, d.val⟩], by rw [hp], by rw [hp, hn], by rw [h1]; simp, by rw [h2, hp, hn]; simp⟩
    obtain ⟨Y1, e1, e2, e3, e4⟩ := hst
    rw [runK] at hl ⊢
    split at hl
    · omega
    · rename_i h9
      rw [if_neg h9, runK, if_neg (by have a := congrArg List.length e3; have b := congrArg List.length e4; simp only [List.length_append, List.length_cons] at a b; omega)]
      exact ins_run c r _ _ X Y1 e1 e2 e3 e4 hl

/-- What bears no key leaves the keys alone. -/
theorem key_free {v : V} (h : ∀ k n s la ll lc L fa fl fc fn F e key hk, v = .mk k n s la ll lc L fa fl fc fn F e key hk → ¬ (k = 6 ∧ hk = true)) (seen : List (List UInt8)) (p : Int) : (keyM seen v p).2 = seen := by
  cases v with
  | leaf => rfl
  | mk k n s la ll lc L fa fl fc fn F e key hk =>
    rw [keyM, if_neg (fun q => h _ _ _ _ _ _ _ _ _ _ _ _ _ _ _ rfl ⟨q.1, q.2.1⟩)]

theorem places (P Q : List V) (v u : V) (hv : ∀ seen p, (keyM seen v p).2 = seen) (hu : u.kid = none) (h : (kidsM (P ++ v :: Q)).length < 4096) :
    (v.kid = none ∧ kidsM (P ++ v :: Q) = kidsM (P ++ u :: Q)) ∨ (v.kid ≠ none ∧ ∃ X c Y, kidsM (P ++ v :: Q) = X ++ c :: Y ∧ kidsM (P ++ u :: Q) = X ++ Y) := by
  unfold kidsM at h ⊢
  have hP := run_pre_le P (v :: Q) ⟨0, [], []⟩ (by decide) h
  rw [run_app P (v :: Q) _ hP] at h ⊢
  rw [run_app P (u :: Q) _ hP]
  generalize runK ⟨0, [], []⟩ P = s at h hP ⊢
  have hm := run_mono Q (stepK s v)
  rw [runK] at h ⊢
  split at h
  · omega
  · rename_i h9
    have hsu : stepK s u = ⟨s.place + 1, s.seen, s.out⟩ := by unfold stepK; rw [hu]
    rw [if_neg h9, runK, if_neg (by rw [hsu]; show s.out.length ≠ 4096; omega), hsu]
    cases hk : v.kid with
    | none =>
      refine .inl ⟨rfl, ?_⟩
      have : stepK s v = ⟨s.place + 1, s.seen, s.out⟩ := by unfold stepK; rw [hk]
      rw [this]
    | some c =>
      refine .inr ⟨by simp, ?_⟩
      have : stepK s v = ⟨s.place + 1, s.seen, s.out ++ [⟨(keyM s.seen v (wrap64 s.place)).1, c.kind, c.name, c.val⟩]⟩ := by unfold stepK; rw [hk, hv]
      rw [this] at h ⊢
      obtain ⟨Y', e1, e2⟩ := ins_run ⟨(keyM s.seen v (wrap64 s.place)).1, c.kind, c.name, c.val⟩ Q ⟨s.place + 1, s.seen, s.out ++ [⟨(keyM s.seen v (wrap64 s.place)).1, c.kind, c.name, c.val⟩]⟩ ⟨s.place + 1, s.seen, s.out⟩ s.out [] rfl rfl rfl (List.append_nil _).symm h
      exact ⟨s.out, _, Y', e1, e2⟩

theorem kids_single (v : V) : (kidsM [v]).length = if v.kid = none then 0 else 1 := by
  unfold kidsM
  rw [runK]
  unfold stepK
  cases v.kid <;> simp [runK]

/-- The list with one taken away for another. -/
def setV (L : Nat → V) (k : Nat) (u : V) : Nat → V := fun i => if i = k then u else L i
theorem listV_at (L : Nat → V) (k n : Nat) (hk : k < n) (v : V) (hv : (L k).flatV = [v]) : listV L n = listV L k ++ v :: listV (fun i => L (k + 1 + i)) (n - (k + 1)) := by
  have h1 := listV_split L (k + 1) (n - (k + 1))
  rw [show k + 1 + (n - (k + 1)) = n by omega, listV_succ, hv] at h1
  rw [h1, List.append_assoc]
  rfl
theorem listV_set (L : Nat → V) (k n : Nat) (hk : k < n) (u : V) (hu : u.flatV = [u]) : listV (setV L k u) n = listV L k ++ u :: listV (fun i => L (k + 1 + i)) (n - (k + 1)) := by
  rw [listV_at (setV L k u) k n hk u (by unfold setV; rw [if_pos rfl, hu])]
  congr 1
  · exact listV_ext fun i hi => by unfold setV; rw [if_neg (by omega)]
  · congr 1
    exact listV_ext fun i hi => by show setV L k u (k + 1 + i) = _; unfold setV; rw [if_neg (by omega)]

/-- How the two rows of children lie against one another, where one was taken away or none. -/
structure Lies (A B : List C) (n1 X : Nat) : Prop where
  len : A.length = B.length + n1
  one : n1 ≤ 1
  pre : ∀ i (h1 : i < A.length) (h2 : i < B.length), (i < X ∨ n1 = 0) → C.sm A[i] B[i]
  suf : ∀ i (h1 : i + 1 < A.length) (h2 : i < B.length), X ≤ i → n1 = 1 → C.sm A[i + 1] B[i]

theorem sms_at {a b : List C} (h : Sms a b) : ∀ (i : Nat) (h1 : i < a.length) (h2 : i < b.length), C.sm a[i] b[i] := by
  induction a generalizing b with
  | nil => intro i h1; exact absurd h1 (by simp)
  | cons x r ih =>
    cases b with
    | nil => exact h.elim
    | cons y s =>
      intro i h1 h2
      cases i with
      | zero => exact h.1
      | succ i => exact ih h.2 i _ _
theorem sm_both {x a b : C} (ha : C.sm x a) (hb : C.sm x b) : C.sm a b :=
  ⟨ha.1.symm.trans hb.1, ha.2.1.symm.trans hb.2.1, ha.2.2.1.symm.trans hb.2.2.1, same_trans _ _ _ (by rw [same_symm]; exact ha.2.2.2) hb.2.2.2⟩
theorem sm_smB {a b : C} (h : C.sm a b) : a.smB b = true := by
  unfold C.smB
  rw [h.1, h.2.1, h.2.2.1, h.2.2.2]
  simp
theorem lies_of {A B : List C} {vsA vsB : List V} {v : V} (hA : Sms (kidsM vsA) A) (hB : Sms (kidsM vsB) B)
    (hp : (v.kid = none ∧ kidsM vsA = kidsM vsB) ∨ (v.kid ≠ none ∧ ∃ X c Y, kidsM vsA = X ++ c :: Y ∧ kidsM vsB = X ++ Y)) : ∃ X, Lies A B (kidsM [v]).length X := by
  have lA := hA.length
  have lB := hB.length
  have aA := sms_at hA
  have aB := sms_at hB
  rw [kids_single]
  rcases hp with ⟨h0, e⟩ | ⟨h0, X, c, Y, e1, e2⟩
  · rw [if_pos h0]
    refine ⟨0, by rw [Nat.add_zero, ← lA, ← lB, e], by omega, fun i h1 h2 _ => ?_, fun i h1 h2 _ h => by omega⟩
    have a := aA i (by omega) h1
    have b := aB i (by omega) h2
    simp only [e] at a
    exact sm_both a b
  · rw [if_neg h0]
    refine ⟨X.length, by rw [← lA, ← lB, e1, e2]; simp; omega, Nat.le_refl _, fun i h1 h2 h => ?_, fun i h1 h2 h _ => ?_⟩
    · have hi : i < X.length := by omega
      have a := aA i (by omega) h1
      have b := aB i (by omega) h2
      simp only [e1, List.getElem_append_left hi] at a
      simp only [e2, List.getElem_append_left hi] at b
      exact sm_both a b
    · have a := aA (i + 1) (by omega) h1
      have b := aB i (by omega) h2
      simp only [e1] at a
      simp only [e2] at b
      rw [List.getElem_append_right (by omega)] at a b
      have e3 : i + 1 - X.length = (i - X.length) + 1 := by omega
      simp only [e3, List.getElem_cons_succ] at a
      exact sm_both a b

/-- What the three rows of children are to one another. -/
theorem places_facts {L : Nat → V} {p ll : Nat} {v : V} {cs1 cs2 cs3 : List C} (hp : p < ll) (hv : L p = v) (hf : v.flatV = [v]) (hk : ∀ seen q, (keyM seen v q).2 = seen) (h1 : Sms (kidsM (listV L ll)) cs1) (h2 : Sms (kidsM (listV (setV L p nv) ll)) cs2) (h3 : Sms (kidsM (listV (fun i => L (p + i)) 1)) cs3) (h4 : cs1.length < 4096) : ∃ X, Lies cs1 cs2 cs3.length X := by
  have e1 := listV_at L p ll hp v (by rw [hv, hf])
  have e2 := listV_set L p ll hp nv (show (if (0 : Int) = 4 then _ else _) = _ from if_neg (by decide))
  have e3 : listV (fun i => L (p + i)) 1 = [v] := by
    show List.flatMap _ (List.range 1) = _
    simp [hv, hf]
  have hpl := places (listV L p) (listV (fun i => L (p + 1 + i)) (ll - (p + 1))) v nv hk (by simp [nv, vz, V.kid]) (by rw [← e1, h1.length]; exact h4)
  rw [← e1, ← e2] at hpl
  rw [e3] at h3
  rw [← h3.length]
  exact lies_of h1 h2 hpl
end Go.Proofs.YtpmkkgndpfbkdaaDoor
namespace Go.Proofs.YtpmkkgndpfbkdaaDoor
set_option linter.unusedVariables false
set_option linter.unusedSimpArgs false
open Go.ChangeShapes Go.WideShapes Go.ChangeAt Go.RowKit Go.Deep

/-- The slot of one value in a row that was just made. -/
theorem row_slot {W W' : World} {n c p : Nat} {L : Nat → V} {a : Option Addr} (h : NewRow W W' 30 8 n (fun i => (L i).cells) a c) (hp : p < n) : ∃ g, a = some ⟨g, 0, none⟩ ∧ W.heap.size ≤ g ∧ At W' g (p * 8) (L p).cells ∧ ∀ j, W'.frozen? ⟨g, j, none⟩ = false := by
  obtain ⟨g, rfl, hat⟩ := h.at' p hp
  refine ⟨g, rfl, h.frm _ rfl, hat, fun j => ?_⟩
  rcases h.row with ⟨e, -⟩ | ⟨g', cur, e, h2, -⟩
  · cases e
  · cases e
    exact Lib.frozen_of_heap h2 j
/-- The row with one value put in the place of another. -/
theorem set_row {W W' : World} {n c p : Nat} {L : Nat → V} {la : Option Addr} {lc : Nat} {g : Nat} (h : NewRow W W' 30 8 n (fun i => (L i).cells) (some ⟨g, 0, none⟩) c) (hp : p < n) (hn : n ≤ 1000) (hWg : W.heap.size ≤ g) (hLo : Lst W la n lc L) :
    Lst (putL W' g (p * 8) nv.cells) (some ⟨g, 0, none⟩) n c (setV L p nv) ∧ Below W.heap.size W (putL W' g (p * 8) nv.cells) := by
  have hlow : Below W.heap.size W (putL W' g (p * 8) nv.cells) := putL_low h.low g _ _ hWg
  have hsm := vz_small (putL W' g (p * 8) nv.cells) 0 0 ⟨#[]⟩ (by decide) (by decide) (by decide)
  have hok : ∀ i, i < n → (setV L p nv i).In (putL W' g (p * 8) nv.cells) ∧ (setV L p nv i).Fit ∧ (setV L p nv i).Keys := fun i hi => by
    unfold setV
    split
    · exact hsm
    · exact ⟨(hLo.els i hi).2.below hlow, hLo.fit.2 i hi, hLo.key i hi⟩
  refine ⟨⟨h.cap, fun i hi => ⟨⟨g, 0, rfl, ?_⟩, (hok i hi).1⟩, ⟨by omega, fun i hi => (hok i hi).2.1⟩, fun i hi => (hok i hi).2.2⟩, hlow⟩
  obtain ⟨g', e, hat⟩ := h.at' i hi
  cases e
  rw [Nat.zero_add]
  unfold setV
  split
  · rename_i e
    subst e
    refine putL_at _ _ _ _ fun j hj => ?_
    have h8 : (L i).cells.length = 8 := in_cells (hLo.els i hi).2
    exact ⟨_, (hat j (by rw [h8]; exact hj)).trans (List.getElem?_eq_getElem (by rw [h8]; exact hj))⟩
  · rename_i hne
    intro j hj
    have h8 : (L i).cells.length = 8 := in_cells (hLo.els i hi).2
    rw [h8] at hj
    rw [putL_other _ _ _ _ _ (by
      have : nv.cells.length = 8 := rfl
      rw [this]
      rcases Nat.lt_or_gt_of_ne hne with q | q
      · left; omega
      · right; omega)]
    exact hat j (by rw [h8]; exact hj)

set_option maxRecDepth 100000 in
set_option maxHeartbeats 4000000 in
theorem np_small (la : Option Addr) (ll lc : Nat) (L : Nat → V) (at_ : Int) (w : World) (h : Lst w la ll lc L) (hll : ll = 0 ∨ 1000 < ll) (ht : Tabs w) :
    Calls Tryd.prog 3 #[.slice la ll lc, .int .u8 at_] w fun x w' => x = .returned (.bool true) ∧ Below w.heap.size w w' := by
  have HAL := Lib.hid (fun W (hb : Below w.heap.size w W) => alive_any W (ht.below hb))
  clear h ht
  rcases hll with rfl | hll
  · go_enter Tryd.func3, Tryd.ntmps3
    go_wp2_with (first
      | (go_at_call 5; (with_reducible refine (HAL.out _ (Below.refl _ _)).mono ?_); rintro x w1 ⟨rfl, hb1⟩; have HB1 := Lib.hid hb1; clear hb1)
      | (go_at_call 5; (with_reducible refine (HAL.out _ HB1.out).mono ?_); rintro x w4 ⟨rfl, hb4⟩; have HB4 : Hid (Below w.heap.size w w4) := HB1.out.trans (hb4.mono HB1.out.size); clear hb4))
    go_ret
    exact ⟨rfl, HB4.out⟩
  · have h1 : (1000 : Int) < (ll : Int) := by omega
    have h2 : ((ll : Int) == 0) = false := by simp; omega
    go_enter Tryd.func3, Tryd.ntmps3
    go_wp2_with (first
      | (go_at_call 5; (with_reducible refine (HAL.out _ (Below.refl _ _)).mono ?_); rintro x w1 ⟨rfl, hb1⟩; have HB1 := Lib.hid hb1; clear hb1)
      | (go_at_call 5; (with_reducible refine (HAL.out _ HB1.out).mono ?_); rintro x w4 ⟨rfl, hb4⟩; have HB4 : Hid (Below w.heap.size w w4) := HB1.out.trans (hb4.mono HB1.out.size); clear hb4))
    go_ret
    exact ⟨rfl, HB4.out⟩

theorem place_num (ll : Nat) (at_ : Int) (h : 0 < ll) : ∃ p : Nat, at_ % (ll : Int) = (p : Int) ∧ (p : Int) < (ll : Int) ∧ p < ll := by
  have e1 := Int.emod_nonneg at_ (show (ll : Int) ≠ 0 by omega)
  have e2 := Int.emod_lt_of_pos at_ (show (0 : Int) < (ll : Int) by omega)
  obtain ⟨p, e⟩ := Int.eq_ofNat_of_zero_le e1
  exact ⟨p, e, by omega, by omega⟩
end Go.Proofs.YtpmkkgndpfbkdaaDoor
