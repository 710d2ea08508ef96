/-
  Walks: ValueSize, ValuesSize, FieldsSize, FieldSize return some int and leave old memory as it was, whatever value lies in memory.
  Conditions: the value lies in memory ('V.In').
-/
import Derived.Test.YtajmdhcknmmbbaaGreatDoorVal
import Derived.Test.YtajmdhcknmmbbaaGreatDoorRows
import Derived.WalkKit
import Derived.WalkSpells
import Derived.WalkLawsBesides
import Derived.Lib.Hide
import Derived.Deep.QuietTactic
import Derived.BigQuiet
namespace Go.Proofs.YtajmdhcknmmbbaaGreatDoor
open Go.RowKit

theorem bcell {W w1 : World} (hb : Below W.heap.size W w1) : (∀ b o, b < W.heap.size → w1.cell? ⟨b, o, none⟩ = W.cell? ⟨b, o, none⟩) ∧ (∀ b o, b < W.heap.size → w1.frozen? ⟨b, o, none⟩ = W.frozen? ⟨b, o, none⟩) :=
  ⟨fun b o h => hb.cell (p := ⟨b, o, none⟩) h, fun b o h => hb.frozen (p := ⟨b, o, none⟩) h⟩

theorem bytes_ne {a b : ByteArray} (h : ¬ a = b) : (a.toList == b.toList) = false := by
  rw [beq_eq_false_iff_ne, ByteArray.toList_eq, ByteArray.toList_eq]
  exact fun e => h (WideShapes.bytes_inj e)
/-- Some int is returned; old memory is as it was. -/
def AnyI (w : World) (e : Ending) (w' : World) : Prop := (∃ n : Int, (-9223372036854775808 ≤ n ∧ n ≤ 9223372036854775807) ∧ e = .returned (.int .i64 n)) ∧ Below w.heap.size w w'

/-- What a size function's contract says of one value. -/
def SizeOk (v : V) : Prop := ∀ w : World, v.In w → Calls Tryz.prog 164 #[v.agg] w (AnyI w)

theorem ret_b {a b : Bool} (h : a = b) : Ending.returned (.bool a) = .returned (.bool b) := by rw [h]

theorem below_alloc (w : World) (O : Obj) : Below w.heap.size w (w.alloc O) := (Below.refl _ _).alloc (Nat.le_refl _) _

theorem wrap64_range (x : Int) : -9223372036854775808 ≤ wrap64 x ∧ wrap64 x ≤ 9223372036854775807 := by
  have := wrap64_wf x
  exact wf_i64 this

theorem anyI_ret {w w' : World} {x : Int} (h : Below w.heap.size w w') : AnyI w (.returned (.int .i64 (wrap64 x))) w' := ⟨⟨_, wrap64_range x, rfl⟩, h⟩

theorem at8 {w : World} {b o : Nat} {k n : Int} {s : ByteArray} {la : Option Addr} {ll lc : Nat} {L : Nat → V} {fa : Option Addr} {fl fc : Nat} {fn : Nat → ByteArray} {F : Nat → V} {e : Int} {key : ByteArray} {hk : Bool}
    (h : At w b o (V.mk k n s la ll lc L fa fl fc fn F e key hk).cells) :
    w.cell? ⟨b, o, none⟩ = some (.int .u8 k) ∧ w.cell? ⟨b, o + 1, none⟩ = some (.int .i64 n) ∧ w.cell? ⟨b, o + 2, none⟩ = some (.string s) ∧ w.cell? ⟨b, o + 3, none⟩ = some (.slice la ll lc) ∧ w.cell? ⟨b, o + 4, none⟩ = some (.slice fa fl fc) ∧
      w.cell? ⟨b, o + 5, none⟩ = some (.int .u8 e) ∧ w.cell? ⟨b, o + 6, none⟩ = some (.string key) ∧ w.cell? ⟨b, o + 7, none⟩ = some (.bool hk) :=
  ⟨h 0 (by simp [V.cells]), h 1 (by simp [V.cells]), h 2 (by simp [V.cells]), h 3 (by simp [V.cells]), h 4 (by simp [V.cells]), h 5 (by simp [V.cells]), h 6 (by simp [V.cells]), h 7 (by simp [V.cells])⟩

theorem at9 {w : World} {b o : Nat} {nm : ByteArray} {k n : Int} {s : ByteArray} {la : Option Addr} {ll lc : Nat} {L : Nat → V} {fa : Option Addr} {fl fc : Nat} {fn : Nat → ByteArray} {F : Nat → V} {e : Int} {key : ByteArray} {hk : Bool}
    (h : At w b o (.string nm :: (V.mk k n s la ll lc L fa fl fc fn F e key hk).cells)) :
    w.cell? ⟨b, o, none⟩ = some (.string nm) ∧ w.cell? ⟨b, o + 1, none⟩ = some (.int .u8 k) ∧ w.cell? ⟨b, o + 2, none⟩ = some (.int .i64 n) ∧ w.cell? ⟨b, o + 3, none⟩ = some (.string s) ∧ w.cell? ⟨b, o + 4, none⟩ = some (.slice la ll lc) ∧ w.cell? ⟨b, o + 5, none⟩ = some (.slice fa fl fc) ∧
      w.cell? ⟨b, o + 6, none⟩ = some (.int .u8 e) ∧ w.cell? ⟨b, o + 7, none⟩ = some (.string key) ∧ w.cell? ⟨b, o + 8, none⟩ = some (.bool hk) :=
  ⟨h 0 (by simp [V.cells]), h 1 (by simp [V.cells]), h 2 (by simp [V.cells]), h 3 (by simp [V.cells]), h 4 (by simp [V.cells]), h 5 (by simp [V.cells]), h 6 (by simp [V.cells]), h 7 (by simp [V.cells]), h 8 (by simp [V.cells])⟩

theorem At.below {w w' : World} {b o : Nat} {cs : List Value} (hb : Below w.heap.size w w') (h : At w b o cs) : At w' b o cs := At.mono (fun _ ha => hb.cell ha) h

set_option maxHeartbeats 400000 in
theorem fieldSize_any (nm : ByteArray) (v : V) (hv : SizeOk v) (w : World) (_hn : nm.size ≤ maxLen) (h : v.In w) :
    Calls Tryz.prog 141 #[.agg (Value.string nm :: v.cells).toArray] w (AnyI w) := by
  cases v with
  | leaf => exact h.elim
  | mk k n s la ll lc L fa fl fc fn F e key hk =>
  unfold maxLen at _hn
  have H := Lib.hid (fun O => hv (w.alloc O) (h.below (below_alloc w O)))
  clear hv h
  simp only [V.cells]
  go_enter Tryz.func141, Tryz.ntmps141
  go_wp2_with fail
  · refine (H.out _).mono ?_
    rintro e w1 ⟨⟨m, hm, rfl⟩, hb⟩
    go_wp2_with fail
    go_ret
    exact anyI_ret ((below_alloc _ _).trans (hb.mono (by simp)))
  · go_ret
    exact anyI_ret (below_alloc _ _)

set_option maxHeartbeats 400000 in
theorem valuesSize_any (la : Option Addr) (ll lc : Nat) (L : Nat → V) (hv : ∀ i, i < ll → SizeOk (L i)) (w : World) (hlc : ll ≤ lc ∧ lc ≤ maxLen)
    (h : ∀ i, i < ll → (∃ b o, la = some ⟨b, o, none⟩ ∧ At w b (o + i * 8) (L i).cells) ∧ (L i).In w) :
    Calls Tryz.prog 181 #[.slice la ll lc] w (AnyI w) := by
  unfold maxLen at hlc
  by_cases hz : ll = 0
  · subst hz
    clear hv h
    go_enter Tryz.func181, Tryz.ntmps181
    go_wp2_with fail
    go_loopw [3, 4] (fun n i wr => i = .int .i64 0 ∧ n = .int .i64 0 ∧ w = wr) (fun _ _ _ => 0)
    case atStart => exact ⟨rfl, rfl, rfl⟩
    case round =>
      obtain ⟨rfl, rfl, rfl⟩ := hrel
      go_wp2_with fail
      go_ret
      exact ⟨⟨0, by omega, rfl⟩, Below.refl _ _⟩
  · obtain ⟨⟨b, o, rfl, -⟩, -⟩ := h 0 (by omega)
    have H := Lib.hid h
    have H2 := Lib.hid hv
    clear h hv
    go_enter Tryz.func181, Tryz.ntmps181
    go_wp2_with fail
    go_loopw [3, 4] (fun n i wr => ∃ k : Nat, k ≤ ll ∧ i = .int .i64 k ∧ (∃ m : Int, (-9223372036854775808 ≤ m ∧ m ≤ 9223372036854775807) ∧ n = .int .i64 m) ∧ Below w.heap.size w wr) (fun _ i _ => ll - (intOf i).toNat)
    case atStart => exact ⟨0, Nat.zero_le _, rfl, ⟨_, by omega, rfl⟩, Below.refl _ _⟩
    case round =>
      obtain ⟨k, hk, rfl, ⟨m, hm, rfl⟩, hb⟩ := hrel
      by_cases hlt : k < ll
      · obtain ⟨⟨b', o', he, hat⟩, hin⟩ := H.out k hlt
        simp only [Option.some.injEq, Addr.mk.injEq, and_true] at he
        obtain ⟨rfl, rfl⟩ := he
        have hx := H2.out k hlt
        have hat := hat.below hb
        have hin := hin.below hb
        have HB := Lib.hid hb
        clear hb
        generalize L k = v at hx hat hin
        cases v with
        | leaf => exact hin.elim
        | mk k2 n2 s2 la2 ll2 lc2 L2 fa2 fl2 fc2 fn2 F2 e2 key2 hk2 =>
        obtain ⟨c0, c1, c2, c3, c4, c5, c6, c7⟩ := at8 hat
        have HX := Lib.hid (hx wr hin)
        clear hx hat hin
        go_wp2_with fail
        · refine HX.out.mono ?_
          rintro e w1 ⟨⟨m1, hm1, rfl⟩, hb1⟩
          have HB1 := Lib.hid (HB.out.trans (hb1.mono HB.out.size))
          clear hb1 c0 c1 c2 c3 c4 c5 c6 c7
          go_wp2_with fail
          go_roundw
          case rel => exact ⟨k + 1, by omega, by go_num, ⟨_, wrap64_range _, rfl⟩, HB1.out⟩
          case measure => simp [intOf]; omega
        · go_ret
          exact ⟨⟨m, hm, rfl⟩, HB.out⟩
      · have HB := Lib.hid hb
        clear hb
        go_wp2_with fail
        go_ret
        exact ⟨⟨m, hm, rfl⟩, HB.out⟩
set_option maxHeartbeats 400000 in
theorem fieldsSize_any (fa : Option Addr) (fl fc : Nat) (fn : Nat → ByteArray) (F : Nat → V) (hv : ∀ i, i < fl → SizeOk (F i)) (w : World) (hlc : fl ≤ fc ∧ fc ≤ maxLen)
    (h : ∀ i, i < fl → (∃ b o, fa = some ⟨b, o, none⟩ ∧ At w b (o + i * 9) (.string (fn i) :: (F i).cells)) ∧ (fn i).size ≤ maxLen ∧ (F i).In w) :
    Calls Tryz.prog 88 #[.slice fa fl fc] w (AnyI w) := by
  unfold maxLen at hlc
  by_cases hz : fl = 0
  · subst hz
    clear hv h
    go_enter Tryz.func88, Tryz.ntmps88
    go_wp2_with fail
    go_loopw [3, 4] (fun n i wr => i = .int .i64 0 ∧ n = .int .i64 0 ∧ w = wr) (fun _ _ _ => 0)
    case atStart => exact ⟨rfl, rfl, rfl⟩
    case round =>
      obtain ⟨rfl, rfl, rfl⟩ := hrel
      go_wp2_with fail
      go_ret
      exact ⟨⟨0, by omega, rfl⟩, Below.refl _ _⟩
  · obtain ⟨⟨b, o, rfl, -⟩, -⟩ := h 0 (by omega)
    have H := Lib.hid h
    have H2 := Lib.hid hv
    clear h hv
    go_enter Tryz.func88, Tryz.ntmps88
    go_wp2_with fail
    go_loopw [3, 4] (fun n i wr => ∃ k : Nat, k ≤ fl ∧ i = .int .i64 k ∧ (∃ m : Int, (-9223372036854775808 ≤ m ∧ m ≤ 9223372036854775807) ∧ n = .int .i64 m) ∧ Below w.heap.size w wr) (fun _ i _ => fl - (intOf i).toNat)
    case atStart => exact ⟨0, Nat.zero_le _, rfl, ⟨_, by omega, rfl⟩, Below.refl _ _⟩
    case round =>
      obtain ⟨k, hk, rfl, ⟨m, hm, rfl⟩, hb⟩ := hrel
      by_cases hlt : k < fl
      · obtain ⟨⟨b', o', he, hat⟩, hsz, hin⟩ := H.out k hlt
        simp only [Option.some.injEq, Addr.mk.injEq, and_true] at he
        obtain ⟨rfl, rfl⟩ := he
        have hx := H2.out k hlt
        have hat := hat.below hb
        have hin := hin.below hb
        have HB := Lib.hid hb
        clear hb
        generalize F k = v at hx hat hin
        generalize fn k = nm at hat hsz
        have HX := Lib.hid (fieldSize_any nm v hx wr hsz hin)
        cases v with
        | leaf => exact hin.elim
        | mk k2 n2 s2 la2 ll2 lc2 L2 fa2 fl2 fc2 fn2 F2 e2 key2 hk2 =>
        obtain ⟨c0, c1, c2, c3, c4, c5, c6, c7, c8⟩ := at9 hat
        clear hx hat hin hsz
        go_wp2_with fail
        · refine HX.out.mono ?_
          rintro e w1 ⟨⟨m1, hm1, rfl⟩, hb1⟩
          have HB1 := Lib.hid (HB.out.trans (hb1.mono HB.out.size))
          clear hb1 c0 c1 c2 c3 c4 c5 c6 c7 c8
          go_wp2_with fail
          go_roundw
          case rel => exact ⟨k + 1, by omega, by go_num, ⟨_, wrap64_range _, rfl⟩, HB1.out⟩
          case measure => simp [intOf]; omega
        · go_ret
          exact ⟨⟨m, hm, rfl⟩, HB.out⟩
      · have HB := Lib.hid hb
        clear hb
        go_wp2_with fail
        go_ret
        exact ⟨⟨m, hm, rfl⟩, HB.out⟩

set_option maxHeartbeats 400000 in
theorem valueSize_any : ∀ v : V, SizeOk v := by
  intro v
  induction v with
  | leaf => exact fun w h => h.elim
  | mk k n s la ll lc L fa fl fc fn F e key hk ihL ihF =>
  intro w h
  obtain ⟨hk1, hn1, hs1, he1, hkey1, hl1, hf1, hL, hF⟩ := h
  have HL := Lib.hid (fun W (hb : Below w.heap.size w W) => valuesSize_any la ll lc L (fun i _ => ihL i) W hl1 (fun i hi => ⟨let ⟨b, o, e1, ha⟩ := (hL i hi).1; ⟨b, o, e1, ha.below hb⟩, (hL i hi).2.below hb⟩))
  have HF := Lib.hid (fun W (hb : Below w.heap.size w W) => fieldsSize_any fa fl fc fn F (fun i _ => ihF i) W hf1 (fun i hi => ⟨let ⟨b, o, e1, ha⟩ := (hF i hi).1; ⟨b, o, e1, ha.below hb⟩, (hF i hi).2.1, (hF i hi).2.2.below hb⟩))
  unfold maxLen at hs1 hkey1
  clear hL hF ihL ihF hl1 hf1
  simp only [V.agg, V.cells]
  go_enter Tryz.func164, Tryz.ntmps164
  go_wp2_with fail
  · refine (HL.out _ (below_alloc _ _)).mono ?_
    rintro e w1 ⟨⟨m1, hm1, rfl⟩, hb1⟩
    obtain ⟨hc, hf⟩ := bcell hb1
    have HB1 := Lib.hid ((below_alloc _ _).trans (hb1.mono (by simp)))
    clear hb1
    go_wp2_with fail
    · refine (HF.out _ HB1.out).mono ?_
      rintro e w2 ⟨⟨m2, hm2, rfl⟩, hb2⟩
      have HB2 := Lib.hid (HB1.out.trans (hb2.mono HB1.out.size))
      clear hb2 hc hf
      go_wp2_with fail
      go_ret
      exact anyI_ret HB2.out
    · go_ret
      exact anyI_ret HB1.out
  · go_ret
    exact anyI_ret (below_alloc _ _)
end Go.Proofs.YtajmdhcknmmbbaaGreatDoor
