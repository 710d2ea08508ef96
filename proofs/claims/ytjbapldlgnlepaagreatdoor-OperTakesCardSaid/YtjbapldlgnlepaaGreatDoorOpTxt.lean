/-
  Walks: hasDeed answers 'V.deed'; slices.IndexFunc and slices.ContainsFunc as it calls them.
  Conditions: the value lies in memory.
  Walks: text of package oper answers 'opV', 'opOk'.
  Conditions: the value lies in memory; the three tables hold what the program's text lays in them.
-/
import Derived.Test.YtjbapldlgnlepaaGreatDoorOpOne
import Derived.Test.YtjbapldlgnlepaaGreatDoorSame2a
import Derived.Deep.CutRange
import Derived.Deep.DeepCutAuto
namespace Go.Proofs.YtjbapldlgnlepaaGreatDoor
open Go.RowKit

/-- A list of fields lies in memory. -/
structure FVals (w : World) (fa : Option Addr) (fl fc : Nat) (fn : Nat → ByteArray) (F : Nat → V) : Prop where
  hlc : fl ≤ fc ∧ fc ≤ maxLen
  el : ∀ i, i < fl → (∃ b o, fa = some ⟨b, o, none⟩ ∧ At w b (o + i * 9) (.string (fn i) :: (F i).cells)) ∧ (fn i).size ≤ maxLen ∧ (F i).In w
theorem FVals.below {w w' : World} {fa : Option Addr} {fl fc : Nat} {fn : Nat → ByteArray} {F : Nat → V} (h : FVals w fa fl fc fn F) (hb : Below w.heap.size w w') : FVals w' fa fl fc fn F :=
  ⟨h.hlc, fun i hi => ⟨let ⟨b, o, e, ha⟩ := (h.el i hi).1; ⟨b, o, e, ha.below hb⟩, (h.el i hi).2.1, (h.el i hi).2.2.below hb⟩⟩

/-- What hasDeed's contract says of one value. -/
def DeedIs (v : V) : Prop := ∀ w : World, v.In w → Calls Tryz.prog 144 #[v.agg] w fun e w' => e = .returned (.bool v.deed) ∧ Below w.heap.size w w'
def DeedFIs (nm : ByteArray) (v : V) : Prop := ∀ w : World, v.In w → Calls Tryz.prog 173 #[.agg (Value.string nm :: v.cells).toArray] w fun e w' => e = .returned (.bool v.deed) ∧ Below w.heap.size w w'

/-- An index, or -1: is it so anywhere? -/
def Idx (b : Bool) (e : Ending) : Prop := ∃ r : Int, e = .returned (.int .i64 r) ∧ decide (0 ≤ r) = b

/-- It holds of none below k. -/
def NotTo (k : Nat) (p : Nat → Bool) : Prop := ∀ i, i < k → p i = false
theorem NotTo.zero {p : Nat → Bool} : NotTo 0 p := fun _ h => absurd h (Nat.not_lt_zero _)
theorem NotTo.succ {k : Nat} {p : Nat → Bool} (h : NotTo k p) (hk : p k = false) : NotTo (k + 1) p := fun i hi => by
  rcases Nat.lt_succ_iff_lt_or_eq.1 hi with h1 | rfl
  · exact h i h1
  · exact hk

set_option maxRecDepth 100000 in
set_option maxHeartbeats 2000000 in
theorem indexV_any (la : Option Addr) (ll lc : Nat) (L : Nat → V) (hv : ∀ i, i < ll → DeedIs (L i)) (w : World) (h : Vals w la ll lc L) :
    Calls Tryz.prog 185 #[.slice la ll lc, .func (Fn.func 144) #[] #[]] w fun e w' => Idx (anyB ll (fun i => (L i).deed)) e ∧ Below w.heap.size w w' := by
  have hlc := h.hlc
  unfold maxLen at hlc
  have HE := Lib.hid (fun i (hi : i < ll) W (hb : Below w.heap.size w W) => And.intro ((h.below hb).el i hi).1 (And.intro ((h.below hb).el i hi).2 (hv i hi W ((h.below hb).el i hi).2)))
  have HT : Hid (∀ i, i < ll → (L i).deed = true → anyB ll (fun i => (L i).deed) = true) := fun i hi he => anyB_iff.2 ⟨i, hi, he⟩
  have HN : Hid (NotTo ll (fun i => (L i).deed) → anyB ll (fun i => (L i).deed) = false) := fun h => anyB_false.2 h
  generalize anyB ll (fun i => (L i).deed) = r at HT HN ⊢
  clear h hv
  go_enter Tryz.func185, Tryz.ntmps185
  go_wp2_with fail
  go_loopw [8] (fun i wr => ∃ k : Nat, i = .int .i64 k ∧ k ≤ ll ∧ NotTo k (fun i => (L i).deed) ∧ Below w.heap.size w wr) (fun i _ => ll - (intOf i).toNat)
  case atStart => exact ⟨0, rfl, Nat.zero_le _, NotTo.zero, Below.refl _ _⟩
  case round =>
    obtain ⟨k, rfl, hk, hnot, hbw⟩ := hrel
    have HH := Lib.hid hnot
    have HB := Lib.hid hbw
    clear hnot hbw
    by_cases hlt : k < ll
    · obtain ⟨⟨b, o, rfl, hat⟩, hin, hcall⟩ := HE.out k hlt wr HB.out
      have hlt' : (k : Int) < (ll : Int) := by omega
      have hk0 : (0 : Int) ≤ (k : Int) := by omega
      have HTk := Lib.hid (HT.out k hlt)
      have HSk := Lib.hid (fun he => HH.out.succ (k := k) (p := fun i => (L i).deed) he)
      obtain ⟨x, hx⟩ : ∃ x, L k = x := ⟨_, rfl⟩
      simp only [hx] at hat hin hcall HTk HSk
      clear hx
      cases x with
      | leaf => exact hin.elim
      | mk k3 n3 s3 la3 ll3 lc3 L3 fa3 fl3 fc3 fn3 F3 e3 key3 hk3 =>
      clear hin
      obtain ⟨c0, c1, c2, c3, c4, c5, c6, c7⟩ := at8 hat
      clear hat
      generalize (V.mk k3 n3 s3 la3 ll3 lc3 L3 fa3 fl3 fc3 fn3 F3 e3 key3 hk3).deed = q at hcall HTk HSk
      simp only [V.agg, V.cells] at hcall
      have HC := Lib.hid hcall
      clear hcall
      cases q
      · go_wp2_with (go_at_call 144; (with_reducible refine HC.out.mono ?_); rintro x w1 ⟨rfl, hb1⟩)
        go_roundw
        case rel => exact ⟨k + 1, by go_num, by omega, HSk.out (by trivial), HB.out.trans (hb1.mono HB.out.size)⟩
        case measure => simp [intOf]; omega
      · go_wp2_with (go_at_call 144; (with_reducible refine HC.out.mono ?_); rintro x w1 ⟨rfl, hb1⟩)
        go_ret
        exact ⟨⟨k, rfl, by rw [HTk.out (by trivial)]; exact decide_eq_true hk0⟩, HB.out.trans (hb1.mono HB.out.size)⟩
    · obtain rfl : ll = k := by omega
      have HQ := Lib.hid (HN.out HH.out)
      go_wp2_with fail
      go_ret
      exact ⟨⟨-1, rfl, by rw [HQ.out]; rfl⟩, HB.out⟩
set_option maxRecDepth 100000 in
set_option maxHeartbeats 2000000 in
theorem indexF_any (fa : Option Addr) (fl fc : Nat) (fn : Nat → ByteArray) (F : Nat → V) (hv : ∀ i, i < fl → DeedFIs (fn i) (F i)) (w : World) (h : FVals w fa fl fc fn F) :
    Calls Tryz.prog 186 #[.slice fa fl fc, .func (Fn.func 173) #[] #[]] w fun e w' => Idx (anyB fl (fun i => (F i).deed)) e ∧ Below w.heap.size w w' := by
  have hlc := h.hlc
  unfold maxLen at hlc
  have HE := Lib.hid (fun i (hi : i < fl) W (hb : Below w.heap.size w W) => And.intro ((h.below hb).el i hi).1 (And.intro ((h.below hb).el i hi).2.2 (hv i hi W ((h.below hb).el i hi).2.2)))
  have HT : Hid (∀ i, i < fl → (F i).deed = true → anyB fl (fun i => (F i).deed) = true) := fun i hi he => anyB_iff.2 ⟨i, hi, he⟩
  have HN : Hid (NotTo fl (fun i => (F i).deed) → anyB fl (fun i => (F i).deed) = false) := fun h => anyB_false.2 h
  generalize anyB fl (fun i => (F i).deed) = r at HT HN ⊢
  clear h hv
  go_enter Tryz.func186, Tryz.ntmps186
  go_wp2_with fail
  go_loopw [8] (fun i wr => ∃ k : Nat, i = .int .i64 k ∧ k ≤ fl ∧ NotTo k (fun i => (F i).deed) ∧ Below w.heap.size w wr) (fun i _ => fl - (intOf i).toNat)
  case atStart => exact ⟨0, rfl, Nat.zero_le _, NotTo.zero, Below.refl _ _⟩
  case round =>
    obtain ⟨k, rfl, hk, hnot, hbw⟩ := hrel
    have HH := Lib.hid hnot
    have HB := Lib.hid hbw
    clear hnot hbw
    by_cases hlt : k < fl
    · obtain ⟨⟨b, o, rfl, hat⟩, hin, hcall⟩ := HE.out k hlt wr HB.out
      have hlt' : (k : Int) < (fl : Int) := by omega
      have hk0 : (0 : Int) ≤ (k : Int) := by omega
      have HTk := Lib.hid (HT.out k hlt)
      have HSk := Lib.hid (fun he => HH.out.succ (k := k) (p := fun i => (F i).deed) he)
      obtain ⟨x, hx⟩ : ∃ x, F k = x := ⟨_, rfl⟩
      obtain ⟨nm, hnm⟩ : ∃ nm, fn k = nm := ⟨_, rfl⟩
      simp only [hx, hnm] at hat hin hcall HTk HSk
      clear hx hnm
      cases x with
      | leaf => exact hin.elim
      | mk k3 n3 s3 la3 ll3 lc3 L3 fa3 fl3 fc3 fn3 F3 e3 key3 hk3 =>
      clear hin
      obtain ⟨c0, c1, c2, c3, c4, c5, c6, c7, c8⟩ := at9 hat
      clear hat
      generalize (V.mk k3 n3 s3 la3 ll3 lc3 L3 fa3 fl3 fc3 fn3 F3 e3 key3 hk3).deed = q at hcall HTk HSk
      simp only [V.cells] at hcall
      have HC := Lib.hid hcall
      clear hcall
      cases q
      · go_wp2_with (go_at_call 173; (with_reducible refine HC.out.mono ?_); rintro x w1 ⟨rfl, hb1⟩)
        go_roundw
        case rel => exact ⟨k + 1, by go_num, by omega, HSk.out (by trivial), HB.out.trans (hb1.mono HB.out.size)⟩
        case measure => simp [intOf]; omega
      · go_wp2_with (go_at_call 173; (with_reducible refine HC.out.mono ?_); rintro x w1 ⟨rfl, hb1⟩)
        go_ret
        exact ⟨⟨k, rfl, by rw [HTk.out (by trivial)]; exact decide_eq_true hk0⟩, HB.out.trans (hb1.mono HB.out.size)⟩
    · obtain rfl : fl = k := by omega
      have HQ := Lib.hid (HN.out HH.out)
      go_wp2_with fail
      go_ret
      exact ⟨⟨-1, rfl, by rw [HQ.out]; rfl⟩, HB.out⟩

set_option maxHeartbeats 400000 in
theorem containsV_any (la : Option Addr) (ll lc : Nat) (L : Nat → V) (hv : ∀ i, i < ll → DeedIs (L i)) (w : World) (h : Vals w la ll lc L) :
    Calls Tryz.prog 171 #[.slice la ll lc, .func (Fn.func 144) #[] #[]] w fun e w' => e = .returned (.bool (anyB ll (fun i => (L i).deed))) ∧ Below w.heap.size w w' := by
  have HC := Lib.hid (indexV_any la ll lc L hv w h)
  clear h hv
  generalize anyB ll (fun i => (L i).deed) = r at HC ⊢
  go_enter Tryz.func171, Tryz.ntmps171
  go_wp2_with (go_at_call 185; (with_reducible refine HC.out.mono ?_); rintro x w1 ⟨⟨q, rfl, hq⟩, hb1⟩)
  have HQ := Lib.hid hq
  clear hq
  go_ret
  exact ⟨by rw [← HQ.out]; rfl, hb1⟩
set_option maxHeartbeats 400000 in
theorem containsF_any (fa : Option Addr) (fl fc : Nat) (fn : Nat → ByteArray) (F : Nat → V) (hv : ∀ i, i < fl → DeedFIs (fn i) (F i)) (w : World) (h : FVals w fa fl fc fn F) :
    Calls Tryz.prog 172 #[.slice fa fl fc, .func (Fn.func 173) #[] #[]] w fun e w' => e = .returned (.bool (anyB fl (fun i => (F i).deed))) ∧ Below w.heap.size w w' := by
  have HC := Lib.hid (indexF_any fa fl fc fn F hv w h)
  clear h hv
  generalize anyB fl (fun i => (F i).deed) = r at HC ⊢
  go_enter Tryz.func172, Tryz.ntmps172
  go_wp2_with (go_at_call 186; (with_reducible refine HC.out.mono ?_); rintro x w1 ⟨⟨q, rfl, hq⟩, hb1⟩)
  have HQ := Lib.hid hq
  clear hq
  go_ret
  exact ⟨by rw [← HQ.out]; rfl, hb1⟩

set_option maxHeartbeats 400000 in
theorem deedF_of (nm : ByteArray) (v : V) (hv : DeedIs v) : DeedFIs nm v := by
  intro w h
  have HC := Lib.hid (fun O => hv (w.alloc O) (h.below (below_alloc w O)))
  cases v with
  | leaf => exact h.elim
  | mk k3 n3 s3 la3 ll3 lc3 L3 fa3 fl3 fc3 fn3 F3 e3 key3 hk3 =>
  clear hv h
  generalize (V.mk k3 n3 s3 la3 ll3 lc3 L3 fa3 fl3 fc3 fn3 F3 e3 key3 hk3).deed = q at HC ⊢
  simp only [V.agg, V.cells] at HC ⊢
  go_enter Tryz.func173, Tryz.ntmps173
  go_wp2_with (go_at_call 144; (with_reducible refine (HC.out _).mono ?_); rintro x w1 ⟨rfl, hb1⟩)
  go_ret
  exact ⟨rfl, (below_alloc w _).trans (hb1.mono (by simp))⟩

set_option maxRecDepth 100000 in
set_option maxHeartbeats 2000000 in
theorem hasDeed_any : ∀ v : V, DeedIs v := by
  intro v
  induction v with
  | leaf => exact fun w h => h.elim
  | mk k n s la ll lc L fa fl fc fn F e key hk ihL ihF =>
  intro w h
  have HCV := Lib.hid (fun W (hb : Below w.heap.size w W) => containsV_any la ll lc L (fun i _ => ihL i) W ⟨h.2.2.2.2.2.1, fun i hi => ⟨let ⟨b, o, e1, ha⟩ := (h.2.2.2.2.2.2.2.1 i hi).1; ⟨b, o, e1, ha.below hb⟩, (h.2.2.2.2.2.2.2.1 i hi).2.below hb⟩⟩)
  have HCF := Lib.hid (fun W (hb : Below w.heap.size w W) => containsF_any fa fl fc fn F (fun i _ => deedF_of _ _ (ihF i)) W ⟨h.2.2.2.2.2.2.1, fun i hi => ⟨let ⟨b, o, e1, ha⟩ := (h.2.2.2.2.2.2.2.2 i hi).1; ⟨b, o, e1, ha.below hb⟩, (h.2.2.2.2.2.2.2.2 i hi).2.1, (h.2.2.2.2.2.2.2.2 i hi).2.2.below hb⟩⟩)
  clear ihL ihF h
  simp only [V.deed, V.agg, V.cells]
  have HBX := Lib.hid (at_new (w := w) (cs := (V.mk k n s la ll lc L fa fl fc fn F e key hk).cells) (T := 55) rfl (Below.refl _ _))
  have HLO := Lib.hid (below_alloc w (.cells (V.mk k n s la ll lc L fa fl fc fn F e key hk).cells.toArray 55))
  simp only [V.cells] at HBX HLO
  generalize anyB ll (fun i => (L i).deed) = r1 at HCV ⊢
  generalize anyB fl (fun i => (F i).deed) = r2 at HCF ⊢
  by_cases hk7 : k = 7
  · subst hk7
    go_enter Tryz.func144, Tryz.ntmps144
    go_wp2_with fail
    go_ret
    exact ⟨by simp, HLO.out⟩
  · have hq : (k == 7) = false := by simpa using hk7
    have HK := Lib.hid hk7
    clear hk7
    go_enter Tryz.func144, Tryz.ntmps144
    go_upto_region 1 with fail
    revert HBX HLO
    generalize w.alloc (.cells #[.int .u8 k, .int .i64 n, .string s, .slice la ll lc, .slice fa fl fc, .int .u8 e, .string key, .bool hk] 55) = W0
    intro HBX HLO
    have c0 := HBX.out 0 (by simp)
    have c3 := HBX.out 3 (by simp)
    have c4 := HBX.out 4 (by simp)
    simp only [Nat.zero_add, Nat.add_zero, List.getElem?_cons_zero, List.getElem?_cons_succ] at c0 c3 c4
    cases r1
    · go_wp2_with (first
        | (go_at_call 171; (with_reducible refine (HCV.out _ HLO.out).mono ?_); rintro x w1 ⟨rfl, hb1⟩; have c4' := hb1.cell (World.block_lt_of_cell? _ _ c4); rw [c4] at c4')
        | (go_at_call 172; (with_reducible refine (HCF.out _ (HLO.out.trans (hb1.mono HLO.out.size))).mono ?_); rintro x w2 ⟨rfl, hb2⟩))
      go_ret
      exact ⟨by rw [decide_eq_false HK.out]; rfl, (HLO.out.trans (hb1.mono HLO.out.size)).trans (hb2.mono (Nat.le_trans HLO.out.size hb1.size))⟩
    · go_wp2_with (go_at_call 171; (with_reducible refine (HCV.out _ HLO.out).mono ?_); rintro x w1 ⟨rfl, hb1⟩)
      go_ret
      exact ⟨by rw [decide_eq_false HK.out]; rfl, HLO.out.trans (hb1.mono HLO.out.size)⟩
end Go.Proofs.YtjbapldlgnlepaaGreatDoor
namespace Go.Proofs.YtjbapldlgnlepaaGreatDoor
open Go.RowKit Go.Deep Go.WideShapes

theorem text_size {w : World} {v : V} (h : v.In w) : v.text.size ≤ maxLen := by
  unfold V.text
  split
  · have := told_short h ‹_›
    show v.told.length ≤ maxLen
    simp only [List.length_nil] at this
    unfold maxLen
    omega
  · decide

set_option maxRecDepth 100000 in
set_option maxHeartbeats 4000000 in
theorem oText_any (la : Option Addr) (lc : Nat) (L : Nat → V) (w : World) (h : Vals w la 1 lc L) (ht : Tabs w) : Calls Tryz.prog 95 #[.slice la 1 lc] w (OpPost 12 1 L w) := by
  have OK0 := OW.start h 55
  have hlc := h.hlc
  unfold maxLen at hlc
  obtain ⟨b, o, rfl, -⟩ := OK0.one
  have HC := Lib.hid (fun W kb (h : OW w (some ⟨b, o, none⟩) 1 lc L W) hk => are1 3 W kb h hk)
  have HX := Lib.hid (fun W (h : OW w (some ⟨b, o, none⟩) 1 lc L W) => (ow_cells1 h).1)
  have HI := Lib.hid (fun W (h : OW w (some ⟨b, o, none⟩) 1 lc L W) => (ow_cells1 h).2)
  have HT : Hid (∀ W, OW w (some ⟨b, o, none⟩) 1 lc L W → Calls Tryz.prog 138 #[(L 0).agg] W fun e w' => e = .returned (.string (L 0).text) ∧ Below W.heap.size W w') := fun W h => text_any _ W (ow_cells1 h).2 (ht.below h.low).1 (ht.below h.low).2.1 (ht.below h.low).2.2
  have HD : Hid (∀ W, OW w (some ⟨b, o, none⟩) 1 lc L W → Calls Tryz.prog 144 #[(L 0).agg] W fun e w' => e = .returned (.bool (L 0).deed) ∧ Below W.heap.size W w') := fun W h => hasDeed_any _ W (ow_cells1 h).2
  have hi0 := (ow_cells1 OK0).2
  have hts : (L 0).text.size ≤ maxLen := text_size hi0
  obtain ⟨r3, hr3⟩ : ∃ r, decide ((L 0).kind = 3) = r := ⟨_, rfl⟩
  obtain ⟨rd, hrd⟩ : ∃ r, (L 0).deed = r := ⟨_, rfl⟩
  obtain ⟨tx, htx⟩ : ∃ t, (L 0).text = t := ⟨_, rfl⟩
  have HP3 : Hid (r3 = true → ∀ e w', (∃ u : V, e = .returned (.tuple #[u.agg, .bool true]) ∧ Below w.heap.size w w' ∧ u.In w' ∧ u = L 0) → OpPost 12 1 L w e w') := by
    rintro h3 e w' ⟨u, h1, h2, hin, rfl⟩
    have e3 : (L 0).kind = 3 := by rw [h3] at hr3; simpa using hr3
    have e1 : opOk 12 1 L = true := by show (decide ((L 0).kind = 3) || !(L 0).deed) = true; rw [hr3, h3]; rfl
    refine ⟨_, by rw [e1]; exact h1, h2, hin, fun _ => ?_⟩
    have e2 : opV 12 1 L = L 0 := if_pos e3
    rw [e2]
    exact In_same hin
  have HP1 : Hid (r3 = false → ∀ e w', (∃ u : V, e = .returned (.tuple #[u.agg, .bool (!rd)]) ∧ Below w.heap.size w w' ∧ u = sv tx) → OpPost 12 1 L w e w') := by
    rintro h3 e w' ⟨u, h1, h2, rfl⟩
    have e3 : ¬ (L 0).kind = 3 := by rw [h3] at hr3; simpa using hr3
    have e1 : opOk 12 1 L = !rd := by show (decide ((L 0).kind = 3) || !(L 0).deed) = _; rw [hr3, h3, hrd]; rfl
    refine ⟨_, by rw [e1]; exact h1, h2, vz_in _ (by omega) (by omega) (by rw [← htx]; exact hts), fun _ => ?_⟩
    have e2 : opV 12 1 L = sv (L 0).text := if_neg e3
    rw [e2, htx]
    exact sv_same _
  rw [hr3] at HC
  rw [hrd] at HD
  rw [htx] at HT
  clear hr3 hrd htx hts
  obtain ⟨x, hx⟩ : ∃ x, L 0 = x := ⟨_, rfl⟩
  rw [hx] at HX hi0 HT HD HI HP3
  clear hx
  cases x with
  | leaf => exact hi0.elim
  | mk k1 n1 s1 la1 ll1 lc1 L1 fa1 fl1 fc1 fn1 F1 e1 key1 hk1 =>
  clear hi0 ht
  have KS := Lib.hid (fun W (h : OW w (some ⟨b, o, none⟩) 1 lc L W) => And.intro h (And.intro (at8 (HX.out W h)) h.rcells))
  clear HX
  simp only [V.agg, V.cells] at HT HD
  simp only [nv, vz, V.cells] at OK0
  have OKH := Lib.hid OK0
  clear OK0 h
  cases r3
  · go_enter Tryz.func95, Tryz.ntmps95
    go_upto_region 1 with fail
    have OKu := OKH.out
    generalize w.alloc (.cells #[.int .u8 0, .int .i64 0, .string ⟨#[]⟩, .slice none 0 0, .slice none 0 0, .int .u8 0, .string ⟨#[]⟩, .bool false] 55) = W0 at OKu ⊢
    have OK : OW w (some ⟨b, o, none⟩) 1 lc L W0 := OKu
    clear OKu OKH
    go_wp2_with (go_at_call 134; (with_reducible refine (HC.out _ _ (OW.alloc OK _) (kat1 _ _ _)).mono ?_); rintro q w2 ⟨rfl, OK2⟩)
    clear OK
    have OK : OW w (some ⟨b, o, none⟩) 1 lc L w2 := OK2
    clear OK2 HC
    go_region_held3 (fun W => OW w (some ⟨b, o, none⟩) 1 lc L W ∧
        (W.cell? ⟨b, o, none⟩ = some (.int .u8 k1) ∧ W.cell? ⟨b, o + 1, none⟩ = some (.int .i64 n1) ∧ W.cell? ⟨b, o + 2, none⟩ = some (.string s1) ∧ W.cell? ⟨b, o + 3, none⟩ = some (.slice la1 ll1 lc1) ∧ W.cell? ⟨b, o + 4, none⟩ = some (.slice fa1 fl1 fc1) ∧ W.cell? ⟨b, o + 5, none⟩ = some (.int .u8 e1) ∧ W.cell? ⟨b, o + 6, none⟩ = some (.string key1) ∧ W.cell? ⟨b, o + 7, none⟩ = some (.bool hk1)) ∧
        (W.cell? ⟨w.heap.size, 0, none⟩ = some (rs W w.heap.size 0) ∧ W.cell? ⟨w.heap.size, 1, none⟩ = some (rs W w.heap.size 1) ∧ W.cell? ⟨w.heap.size, 2, none⟩ = some (rs W w.heap.size 2) ∧ W.cell? ⟨w.heap.size, 3, none⟩ = some (rs W w.heap.size 3) ∧ W.cell? ⟨w.heap.size, 4, none⟩ = some (rs W w.heap.size 4) ∧ W.cell? ⟨w.heap.size, 5, none⟩ = some (rs W w.heap.size 5) ∧ W.cell? ⟨w.heap.size, 6, none⟩ = some (rs W w.heap.size 6) ∧ W.cell? ⟨w.heap.size, 7, none⟩ = some (rs W w.heap.size 7)) ∧
        (W.frozen? ⟨w.heap.size, 0, none⟩ = false ∧ W.frozen? ⟨w.heap.size, 1, none⟩ = false ∧ W.frozen? ⟨w.heap.size, 2, none⟩ = false ∧ W.frozen? ⟨w.heap.size, 3, none⟩ = false ∧ W.frozen? ⟨w.heap.size, 4, none⟩ = false ∧ W.frozen? ⟨w.heap.size, 5, none⟩ = false ∧ W.frozen? ⟨w.heap.size, 6, none⟩ = false ∧ W.frozen? ⟨w.heap.size, 7, none⟩ = false))
      (first
        | (refine KS.out _ ?_; with_reducible assumption)
        | (refine KS.out _ ?_; ((with_reducible refine OW.set ?_ _ _); (repeat' (with_reducible refine OW.set ?_ _ _)); go_split_ands; with_reducible assumption))
        | (with_reducible exact KS.out _ (OW.drew OK))
        | (with_reducible exact KS.out _ (OW.drew (OW.alloc OK _)))
        | (refine KS.out _ (OW.below ?_ (by with_reducible assumption)); go_split_ands; with_reducible assumption)
        | (with_reducible refine KS.out _ (OW.alloc ?_ _); go_split_ands; with_reducible assumption))
      (first
        | (go_at_call 138; (with_reducible refine (HT.out _ ?_).mono ?_); (go_split_ands; assumption); rintro p w3 ⟨rfl, hb3⟩)
        | (go_at_call 140; (with_reducible refine (aText_any _ _).mono ?_); rintro p w4 ⟨rfl, hb4⟩; simp only [sv, vz, V.agg, V.cells])
        | (go_at_call 144; (with_reducible refine (HD.out _ ?_).mono ?_); (go_split_ands; assumption); rintro p w5 ⟨rfl, hb5⟩))
    all_goals
      go_wp2_with fail
      rename_i hS
      have HS := Lib.hid hS.1
      obtain ⟨-, -, ⟨d0, d1, d2, d3, d4, d5, d6, d7⟩, -⟩ := KS.out _ (OW.below (OW.below (OW.below OK.drew hb3) hb4) hb5)
      clear hS KS OK
      refine bodyPost_ret (v := .tuple #[(sv tx).agg, .bool (!rd)]) (by simp [results, Tryz.results95, go_sem, d0, d1, d2, d3, d4, d5, d6, d7, sv, vz, V.agg, V.cells]) rfl (HP1.out (by trivial) _ _ ⟨_, rfl, HS.out.low, rfl⟩)
  · go_enter Tryz.func95, Tryz.ntmps95
    go_upto_region 1 with fail
    have OKu := OKH.out
    generalize w.alloc (.cells #[.int .u8 0, .int .i64 0, .string ⟨#[]⟩, .slice none 0 0, .slice none 0 0, .int .u8 0, .string ⟨#[]⟩, .bool false] 55) = W0 at OKu ⊢
    have OK : OW w (some ⟨b, o, none⟩) 1 lc L W0 := OKu
    clear OKu OKH
    go_wp2_with (go_at_call 134; (with_reducible refine (HC.out _ _ (OW.alloc OK _) (kat1 _ _ _)).mono ?_); rintro q w2 ⟨rfl, OK2⟩; have HB := Lib.hid OK2; obtain ⟨-, ⟨c0, c1, c2, c3, c4, c5, c6, c7⟩, ⟨d0, d1, d2, d3, d4, d5, d6, d7⟩, z0, z1, z2, z3, z4, z5, z6, z7⟩ := KS.out _ OK2; clear OK2)
    refine bodyPost_ret (v := .tuple #[(V.mk k1 n1 s1 la1 ll1 lc1 L1 fa1 fl1 fc1 fn1 F1 e1 key1 hk1).agg, .bool true]) (by simp [results, Tryz.results95, go_sem, d0, d1, d2, d3, d4, d5, d6, d7, V.agg, V.cells]) rfl (HP3.out (by trivial) _ _ ⟨_, rfl, ?_, ?_, rfl⟩)
    · iterate 8 (with_reducible refine low_set ?_ _ _)
      exact HB.out.low
    · refine HI.out _ ?_
      iterate 8 (with_reducible refine OW.set ?_ _ _)
      exact HB.out
end Go.Proofs.YtjbapldlgnlepaaGreatDoor
