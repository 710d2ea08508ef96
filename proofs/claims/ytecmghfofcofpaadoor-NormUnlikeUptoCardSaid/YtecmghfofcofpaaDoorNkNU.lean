/-
  NormUnlike: for any values whose reading is of bulk at most 2^20 the law returns true and leaves its argument as it was: no two children have one key, and there are never more of them than there may be.
  Conditions: the second form's bound on the bulk; the listed variables are tied to the program's text by the card.
-/
import Derived.Test.YtecmghfofcofpaaDoorNkK
namespace Go.Proofs.YtecmghfofcofpaaDoor
set_option linter.unusedVariables false
set_option linter.unusedSimpArgs false
open Go.ChangeShapes Go.WideShapes Go.ChangeAt Go.RowKit Go.Deep

set_option maxRecDepth 100000 in
theorem ext2 {s : ByteArray} {a b : UInt8} (h : s.data.toList.take 2 = [a, b]) : s.extract 0 2 = ⟨#[a, b]⟩ ∧ 2 ≤ s.size := by
  have h2 : 2 ≤ s.data.toList.length := by
    have := congrArg List.length h
    rw [List.length_take] at this
    simp only [List.length_cons, List.length_nil] at this
    omega
  refine ⟨?_, by rw [ByteArray.size, ← Array.length_toList]; exact h2⟩
  have : (s.extract 0 2).data.toList = [a, b] := by
    rw [ByteArray.data_extract]
    simp [h]
  obtain ⟨d⟩ := s
  generalize (ByteArray.mk d).extract 0 2 = t at this ⊢
  obtain ⟨t⟩ := t
  simp only at this
  congr 1
  exact Array.toList_inj.1 this

/-- What the list of children handed back keeps of the plain one: keys unlike, each good. -/
structure Row (cs : List C) : Prop where
  apart : ∀ (i j : Nat) (hi : i < cs.length) (hj : j < i), (cs[j]).key ≠ (cs[i]).key
  good : ∀ (i : Nat) (hi : i < cs.length), Good cs[i]
  len : cs.length ≤ 4096
theorem sms_row {a b : List C} (h : Sms a b) (hp : a.Pairwise (fun x y => x.key ≠ y.key)) (hg : ∀ c ∈ a, Good c) (hl : a.length ≤ 4096) : Row b := by
  have hlen := h.length
  have hat : ∀ (i : Nat) (h1 : i < a.length) (h2 : i < b.length), C.sm a[i] b[i] := by
    clear hp hg hl hlen
    induction a generalizing b with
    | nil => intro i h1; exact absurd h1 (by simp)
    | cons x r ih =>
      cases b with
      | nil => exact h.elim
      | cons y s =>
        intro i h1 h2
        cases i with
        | zero => exact h.1
        | succ i => exact ih h.2 i _ _
  refine ⟨fun i j hi hj => ?_, fun i hi => ?_, by omega⟩
  · have e1 := (hat i (by omega) hi).1
    have e2 := (hat j (by omega) (by omega)).1
    rw [← e1, ← e2]
    exact List.pairwise_iff_getElem.1 hp j i (by omega) (by omega) hj
  · obtain ⟨e1, e2, e3, -⟩ := hat i (by omega) hi
    have := hg a[i] (List.getElem_mem (by omega))
    unfold Good at this ⊢
    rw [← e1, ← e2, ← e3]
    exact this

set_option maxRecDepth 100000 in
set_option maxHeartbeats 4000000 in
theorem nu_any (la : Option Addr) (ll lc : Nat) (L : Nat → V) (w : World) (h : Lst w la ll lc L) (hn : (listV L ll).length ≤ 4611686018427387904) (ht : Tabs w) :
    Calls Tryd.prog 3 #[.slice la ll lc] w fun x w' => x = .returned (.bool true) ∧ Below w.heap.size w w' := by
  have HAL := Lib.hid (fun W (hb : Below w.heap.size w W) => alive_any W (ht.below hb))
  have HVS := Lib.hid (fun W (hb : Below w.heap.size w W) => vs_size (h.below hb))
  have HBY := Lib.hid (fun x hx W => beyond_one x hx W)
  have HKD := Lib.hid (fun W (hb : Below w.heap.size w W) => kids_any la ll lc L W (h.below hb) (ht.below hb))
  have HG := Lib.hid (kids_good (listV L ll) hn)
  clear h ht hn
  go_enter Tryd.func3, Tryd.ntmps3
  go_wp2_with (first
    | (go_at_call 7; (with_reducible refine (HAL.out _ (Below.refl _ _)).mono ?_); rintro x w1 ⟨rfl, hb1⟩; have HB1 := Lib.hid hb1; clear hb1)
    | (go_at_call 9; (with_reducible refine (HVS.out _ HB1.out).mono ?_); rintro x w2 ⟨⟨n, hn, rfl⟩, hb2⟩; have HB2 : Hid (Below w.heap.size w w2) := HB1.out.trans (hb2.mono HB1.out.size); clear hb2)
    | (go_at_call 8; (with_reducible refine (HBY.out n hn w2).mono ?_); rintro x w3 ⟨⟨q, rfl⟩, hb3⟩; have HB3 : Hid (Below w.heap.size w w3) := HB2.out.trans (((below_alloc w2 _).trans (hb3.mono (by simp))).mono HB2.out.size); clear hb3)
    | (go_at_call 7; (with_reducible refine (HAL.out _ HB3.out).mono ?_); rintro x w4 ⟨rfl, hb4⟩; have HB4 : Hid (Below w.heap.size w w4) := HB3.out.trans (hb4.mono HB3.out.size); clear hb4)
    | (go_at_call 10; (with_reducible refine (HKD.out _ HB3.out).mono ?_); rintro x w4 ⟨u, cs, rfl, hp⟩; have HB4 : Hid (Below w.heap.size w w4) := HB3.out.trans (hp.low.mono HB3.out.size); have HP := Lib.hid hp; clear hp; obtain ⟨a, cap, rfl, hrow, hcap, hcm⟩ := kd_row HP.out; have HR := Lib.hid hrow; have HW := Lib.hid (sms_row HP.out.sms HG.out.1 HG.out.2.1 HG.out.2.2); clear hrow; have h4096 : (cs.length : Int) ≤ 4096 := (by have := HW.out.len; omega)))
  · go_ret
    exact ⟨rfl, HB4.out⟩
  go_loopw [4] (fun i wr => ∃ j : Nat, j ≤ cs.length ∧ i = .int .i64 j ∧ wr = w4) (fun i _ => cs.length - (intOf i).toNat)
  case atStart => exact ⟨0, Nat.zero_le _, rfl, rfl⟩
  case round =>
    obtain ⟨j, hj, rfl, rfl⟩ := hrel
    have hlen := HW.out.len
    by_cases hlt : j < cs.length
    · obtain ⟨g, rfl, hat⟩ := HR.out.at' j hlt
      have hg := HW.out.good j hlt
      have HA : Hid (∀ i (hi : i < j), ∃ x : ByteArray, wr.cell? ⟨g, i * 11, none⟩ = some (.string x) ∧ x ≠ (cs[j]).key) := fun i hi => by
        obtain ⟨g', e, h2⟩ := HR.out.at' i (by omega)
        cases e
        exact ⟨_, h2 0 (by simp [C.cells]), HW.out.apart j i hlt hi⟩
      obtain ⟨c, hc⟩ : ∃ c, cs[j] = c := ⟨_, rfl⟩
      rw [hc] at hat hg HA
      clear hc
      obtain ⟨key, ek, nm, v⟩ := c
      have e0 : wr.cell? ⟨g, j * 11, none⟩ = some (.string key) := hat 0 (by simp [C.cells])
      have e1 : wr.cell? ⟨g, j * 11 + 1, none⟩ = some (.int .u8 ek) := hat 1 (by simp [C.cells])
      have e2 : wr.cell? ⟨g, j * 11 + 2, none⟩ = some (.string nm) := hat 2 (by simp [C.cells])
      clear hat
      obtain ⟨hp, hk1, hk2, hk3⟩ := hg
      have hk1 : 0 < ek := hk1
      have hk2 : ek ≤ 9 := hk2
      have hk3 : ek = 9 → nm = ⟨#[]⟩ := hk3
      have hp : key.data.toList.take 2 = [107, 58] ∨ key.data.toList.take 2 = [105, 58] := hp
      have HA : Hid (∀ i (hi : i < j), ∃ x : ByteArray, wr.cell? ⟨g, i * 11, none⟩ = some (.string x) ∧ x ≠ key) := HA
      have hl0 : (0 : Int) ≤ (j : Int) := by omega
      have hli : (j : Int) < (cs.length : Int) := by omega
      have hsz : 2 ≤ key.size := by rcases hp with h | h <;> exact (ext2 h).2
      have hszi : (2 : Int) ≤ (key.size : Int) := by omega
      have hnz : (ek == 0) = false := by simp; omega
      have h9 : (ek == 9) = decide (ek = 9) := rfl
      rcases hp with h | h
      all_goals
        have hx := (ext2 h).1
        clear h
        go_wp2_with fail
      all_goals first
        | (exfalso; rename_i q1 q2; rcases q2 with (q2 | q2) | q2 <;> first | omega | (rw [hnz] at q2; cases q2); done)
        | skip
      all_goals
        go_loopw [6] (fun i wr' => ∃ t : Nat, t ≤ j ∧ i = .int .i64 t ∧ wr' = wr) (fun i _ => j - (intOf i).toNat)
        case atStart => exact ⟨0, Nat.zero_le _, rfl, rfl⟩
        case round =>
          rename_i wr0
          obtain ⟨t, ht, rfl, rfl⟩ := hrel
          by_cases htj : t < j
          · obtain ⟨x, hx0, hx1⟩ := HA.out t htj
            have hx2 : (x.toList == key.toList) = false := bytes_ne hx1
            have ht0 : (0 : Int) ≤ (t : Int) := by omega
            have hti : (t : Int) < (cs.length : Int) := by omega
            have htj2 : (t : Int) < (j : Int) := by omega
            go_wp2_with fail
            all_goals
              go_roundw
              case rel => first | exact ⟨t + 1, by omega, by go_num, trivial⟩ | exact ⟨j + 1, by omega, by go_num, trivial⟩
              case measure => simp [intOf]; omega
          · obtain rfl : t = j := by omega
            go_wp2_with fail
            go_roundw
            case rel => exact ⟨t + 1, by omega, by go_num, trivial⟩
            case measure => simp [intOf]; omega
    · obtain rfl : j = cs.length := by omega
      go_wp2_with fail
      go_ret
      exact ⟨rfl, HB4.out⟩
end Go.Proofs.YtecmghfofcofpaaDoor
