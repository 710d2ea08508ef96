/-
  Walks: child, unlike, beyond of the laws on matching.
  Conditions: what is looked at lies in memory.
-/
import Derived.Test.YtpmkkgndpfbkdaaMaU
import Derived.Test.YtpmkkgndpfbkdaaBeyond
namespace Go.Proofs.Ytpmkkgndpfbkdaa
set_option linter.unusedVariables false
set_option linter.unusedSimpArgs false
open Go.RowKit Go.Deep Go.WideShapes

/-- A value of nothing. -/
def zv : V := .mk 0 0 ⟨#[]⟩ none 0 0 (fun _ => .leaf) none 0 0 (fun _ => ⟨#[]⟩) (fun _ => .leaf) 0 ⟨#[]⟩ false
theorem zv_in (w : World) : zv.In w := by
  have h : (⟨#[]⟩ : ByteArray).size ≤ maxLen := Nat.zero_le _
  have h0 : (0 : Nat) ≤ maxLen := Nat.zero_le _
  exact ⟨⟨by decide, by decide⟩, ⟨by decide, by decide⟩, h, ⟨by decide, by decide⟩, h, ⟨Nat.le_refl _, h0⟩, ⟨Nat.le_refl _, h0⟩, fun i hi => absurd hi (Nat.not_lt_zero _), fun i hi => absurd hi (Nat.not_lt_zero _)⟩
def zc (key : ByteArray) (k : Int) : C := ⟨key, k, ⟨#[]⟩, zv⟩
theorem child_any (key : ByteArray) (k : Int) (w : World) : Calls Try.prog 10 #[.string key, .int .u8 k] w fun e w' => e = .returned (zc key k).agg ∧ Below w.heap.size w w' := by
  have hlow : Hid (∀ (O : Obj), Below w.heap.size w (w.alloc O)) := fun O => below_alloc w O
  simp only [C.agg, C.cells, zc, zv, V.cells]
  go_enter Try.func10, Try.ntmps10
  go_wp2_with fail
  refine bodyPost_ret (v := .agg #[.string key, .int .u8 k, .string ⟨#[]⟩, .int .u8 0, .int .i64 0, .string ⟨#[]⟩, .slice none 0 0, .slice none 0 0, .int .u8 0, .string ⟨#[]⟩, .bool false]) (by simp [results, Try.results10, go_sem]) rfl ?_
  exact ⟨rfl, hlow.out _⟩

/-- Are two numbers beyond? Some Boolean. -/
theorem beyond_two (x y : Int) (hx : -9223372036854775808 ≤ x ∧ x ≤ 9223372036854775807) (hy : -9223372036854775808 ≤ y ∧ y ≤ 9223372036854775807) (w : World) : Calls Try.prog 12 #[.slice (some ⟨w.heap.size, 0, none⟩) 2 2] (w.alloc (.cells #[.int .i64 x, .int .i64 y] 3)) fun e w' => (∃ q : Bool, e = .returned (.bool q)) ∧ Below (w.alloc (.cells #[.int .i64 x, .int .i64 y] 3)).heap.size (w.alloc (.cells #[.int .i64 x, .int .i64 y] 3)) w' := by
  have := beyond_is (w.alloc (.cells #[.int .i64 x, .int .i64 y] 3)) w.heap.size 0 2 2 (fun i => if i = 0 then x else y) (by decide) (fun j hj => by
    match j, hj with
    | 0, _ => exact World.cell?_alloc_new (w := w) #[.int .i64 x, .int .i64 y] 3 0
    | 1, _ => exact World.cell?_alloc_new (w := w) #[.int .i64 x, .int .i64 y] 3 1) (fun i => by split <;> assumption)
  refine this.mono fun e w' h => ⟨⟨_, h.1⟩, ?_⟩
  rw [← h.2]
  exact Below.refl _ _

/-- Some Boolean; P where it is b. -/
def QPost (w : World) (b : Bool) (P : Prop) (x : Ending) (w' : World) : Prop := ∃ q : Bool, x = .returned (.bool q) ∧ (q = b → P) ∧ Below w.heap.size w w'
set_option maxRecDepth 100000 in
set_option maxHeartbeats 1000000 in
theorem beyond8_any (la : Option Addr) (ll lc : Nat) (K : Nat → C) (na : Option Addr) (nl nc : Nat) (N : Nat → C) (w : World) (hK : CLst w la ll lc K) (hN : CLst w na nl nc N) :
    Calls Try.prog 6 #[.slice la ll lc, .slice na nl nc] w (QPost w false (ll ≤ 500 ∧ nl ≤ 500)) := by
  have hll := hK.cap
  have hnl := hN.cap
  unfold maxLen at hll hnl
  have HK := Lib.hid (childrenSize_any la ll lc K w hK)
  have HN := Lib.hid (fun W (hb : Below w.heap.size w W) => childrenSize_any na nl nc N W (hN.below hb))
  have HBY := Lib.hid (fun x hx y hy W => beyond_two x y hx hy W)
  clear hK hN
  have hc1 : (ll : Int) ≤ 9223372036854775807 := by omega
  have hc2 : (nl : Int) ≤ 9223372036854775807 := by omega
  clear hll hnl
  by_cases h1 : 500 < ll
  · have h1' : decide ((500 : Int) < (ll : Int)) = true := decide_eq_true (by omega)
    go_enter Try.func6, Try.ntmps6
    go_wp2_with fail
    go_ret
    exact ⟨true, rfl, (fun h => by cases h), Below.refl _ _⟩
  · have h1' : decide ((500 : Int) < (ll : Int)) = false := decide_eq_false (by omega)
    by_cases h2 : 500 < nl
    · have h2' : decide ((500 : Int) < (nl : Int)) = true := decide_eq_true (by omega)
      go_enter Try.func6, Try.ntmps6
      go_wp2_with fail
      go_ret
      exact ⟨true, rfl, (fun h => by cases h), Below.refl _ _⟩
    · have h2' : decide ((500 : Int) < (nl : Int)) = false := decide_eq_false (by omega)
      have HL := Lib.hid (And.intro (Nat.le_of_not_lt h1) (Nat.le_of_not_lt h2))
      clear h1 h2
      go_enter Try.func6, Try.ntmps6
      go_wp2_with (first
        | (go_at_call 13; (with_reducible refine HK.out.mono ?_); rintro x w1 ⟨⟨n1, hn1, rfl⟩, hb1⟩; have HB1 := Lib.hid hb1; clear hb1)
        | (go_at_call 13; (with_reducible refine (HN.out _ HB1.out).mono ?_); rintro x w2 ⟨⟨n2, hn2, rfl⟩, hb2⟩; have HB2 : Hid (Below w.heap.size w w2) := HB1.out.trans (hb2.mono HB1.out.size); clear hb2)
        | (go_at_call 12; (with_reducible refine (HBY.out n1 hn1 n2 hn2 w2).mono ?_); rintro x w3 ⟨⟨q, rfl⟩, hb3⟩; have HB3 : Hid (Below w.heap.size w w3) := HB2.out.trans (((below_alloc w2 _).trans (hb3.mono (by simp))).mono HB2.out.size); clear hb3))
      go_ret
      exact ⟨_, rfl, fun _ => HL.out, HB3.out⟩

theorem Unl_not {K : Nat → C} {n i k : Nat} (hi : i < n) (hk : k < i) (e : (K i).key = (K k).key) : ¬ Unl K n := fun h => h i k hi hk (by unfold C.kl; rw [e])
/-- Of the first j none has the key of an earlier one. -/
theorem Unl.succ {K : Nat → C} {j : Nat} (h : Unl K j) (hj : ∀ k, k < j → (K j).key ≠ (K k).key) : Unl K (j + 1) := fun i k hi hk e => by
  rcases Nat.lt_succ_iff_lt_or_eq.1 hi with hlt | rfl
  · exact h i k hlt hk e
  · refine hj k hk ?_
    have e' : (K i).key.data.toList = (K k).key.data.toList := e
    have := Array.toList_inj.1 e'
    cases h1 : (K i).key
    cases h2 : (K k).key
    rw [h1, h2] at this
    simp only at this
    rw [this]

set_option maxRecDepth 100000 in
set_option maxHeartbeats 1000000 in
theorem unlike_any (la : Option Addr) (ll lc : Nat) (K : Nat → C) (w : World) (hK : CLst w la ll lc K) :
    Calls Try.prog 9 #[.slice la ll lc] w (QPost w true (Unl K ll)) := by
  have hll := hK.cap
  unfold maxLen at hll
  have HK := Lib.hid (fun W (hb : Below w.heap.size w W) => (hK.below hb).els)
  clear hK
  go_enter Try.func9, Try.ntmps9
  go_wp2_with fail
  go_loopw [3] (fun i wr => ∃ j : Nat, j ≤ ll ∧ i = .int .i64 j ∧ Unl K j ∧ Below w.heap.size w wr) (fun i _ => ll - (intOf i).toNat)
  case atStart => exact ⟨0, Nat.zero_le _, rfl, fun i k hi => absurd hi (Nat.not_lt_zero _), Below.refl _ _⟩
  case round =>
    obtain ⟨j, hj, rfl, hu, hb⟩ := hrel
    have HU := Lib.hid hu
    have HB := Lib.hid hb
    clear hu hb
    by_cases hlt : j < ll
    · have hj0 : (0 : Int) ≤ (j : Int) := by omega
      have hj1 : (j : Int) < (ll : Int) := by omega
      go_wp2_with fail
      obtain ⟨wo, hwo⟩ : ∃ wo : World, wo = wr := ⟨_, rfl⟩
      subst hwo
      go_loopw [4] (fun i wr' => ∃ k : Nat, k ≤ j ∧ i = .int .i64 k ∧ (∀ k', k' < k → (K j).key ≠ (K k').key) ∧ Below w.heap.size w wr') (fun i _ => j - (intOf i).toNat)
      case atStart => exact ⟨0, Nat.zero_le _, rfl, fun k' hk => absurd hk (Nat.not_lt_zero _), HB.out⟩
      case round =>
        obtain ⟨k, hk, rfl, hne, hb2⟩ := hrel
        have HNE := Lib.hid hne
        have HB2 := Lib.hid hb2
        clear hne hb2 HB
        by_cases hkj : k < j
        · have hk0 : (0 : Int) ≤ (k : Int) := by omega
          have hk1 : (k : Int) < (j : Int) := by omega
          have hk2 : (k : Int) < (ll : Int) := by omega
          obtain ⟨⟨b, o, rfl, hat⟩, -⟩ := HK.out _ HB2.out j hlt
          obtain ⟨⟨b', o', he, hat2⟩, -⟩ := HK.out _ HB2.out k (by omega)
          simp only [Option.some.injEq, Addr.mk.injEq, and_true] at he
          obtain ⟨rfl, rfl⟩ := he
          have e0 : wr.cell? ⟨b, o + j * 11, none⟩ = some (.string (K j).key) := hat 0 (by simp [C.cells])
          have e1 : wr.cell? ⟨b, o + k * 11, none⟩ = some (.string (K k).key) := hat2 0 (by simp [C.cells])
          clear hat hat2
          by_cases e : (K j).key = (K k).key
          · have HN := Lib.hid (Unl_not hlt hkj e)
            rw [← e] at e1
            clear e
            generalize (K j).key = x at e0 e1
            go_upto_region 7 with fail
            go_quiet (fail)
            have HL2 := Lib.hid (HB2.out.trans ((below_drawM _ nq).mono HB2.out.size))
            go_wp2_with fail
            go_ret
            exact ⟨false, rfl, (fun h => by cases h), HL2.out⟩
          · have hbn : ((K j).key.toList == (K k).key.toList) = false := bytes_ne e
            have HN : Hid (∀ k', k' < k + 1 → (K j).key ≠ (K k').key) := Lib.hid (fun k' hk' => by
              rcases Nat.lt_succ_iff_lt_or_eq.1 hk' with h | rfl
              · exact HNE.out k' h
              · exact e)
            clear e
            generalize hxe : (K j).key = x at e0 hbn
            generalize hye : (K k).key = y at e1 hbn
            rw [hxe] at HN
            clear hxe hye
            go_upto_region 7 with fail
            go_quiet (fail)
            have HL2 := Lib.hid (HB2.out.trans ((below_drawM _ nq).mono HB2.out.size))
            go_wp2_with fail
            refine ⟨⟨k + 1, by omega, by go_num, HN.out, HL2.out⟩, by simp [intOf]; omega⟩
        · obtain rfl : k = j := by omega
          have HUN := Lib.hid (HU.out.succ HNE.out)
          go_wp2_with fail
          go_roundw
          case rel => exact ⟨k + 1, by omega, by go_num, HUN.out, HB2.out⟩
          case measure => simp [intOf]; omega
    · obtain rfl : j = ll := by omega
      go_wp2_with fail
      go_ret
      exact ⟨true, rfl, fun _ => HU.out, HB.out⟩
end Go.Proofs.Ytpmkkgndpfbkdaa
