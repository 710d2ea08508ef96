/-
  Plain and memory: the children that Kids hands back are a list of children, with unlike keys, within bounds ('kids_clst').
  Conditions: no more values are gone through than a place can count; keys and names within bounds.
  Walks: MatchAll returns true: children with unlike keys go on as themselves, and a child goes on exactly if its like with its key is there.
  Conditions: both lists of values lie in memory, no more of them are gone through than a place can count; the three tables hold what the program's text lays in them.
-/
import Derived.Test.YtpmkkgndpfbkdaaDoorNkU
import Derived.Test.YtpmkkgndpfbkdaaDoorNkZ
import Derived.Test.YtpmkkgndpfbkdaaDoorMaL
import Derived.Test.YtpmkkgndpfbkdaaDoorNkK
namespace Go.Proofs.YtpmkkgndpfbkdaaDoor
set_option linter.unusedVariables false
set_option linter.unusedSimpArgs false
open Go.RowKit Go.Deep Go.WideShapes

/-- A value whose text and key are within bounds. -/
def VB : V → Prop
  | .leaf => True
  | .mk _ _ s _ _ _ _ _ _ _ _ _ _ key _ => s.size ≤ maxLen ∧ key.size ≤ 140737488351232
/-- A child within bounds. -/
def CB (c : C) : Prop := c.key.size ≤ maxLen ∧ (0 ≤ c.kind ∧ c.kind ≤ 255) ∧ c.name.size ≤ maxLen

theorem key_bound (seen : List (List UInt8)) (v : V) (p : Int) (hv : VB v) (hp : -9223372036854775808 ≤ p ∧ p ≤ 9223372036854775807) : (keyM seen v p).1.size ≤ maxLen := by
  have hi : (iKey p).size ≤ maxLen := by
    have := itoa_size p hp
    have e : (iKey p).size = 2 + (⟨(Lib.itoa p).toArray⟩ : ByteArray).size := by
      unfold iKey
      have : ByteArray.append ⟨#[105, 58]⟩ ⟨(Lib.itoa p).toArray⟩ = (⟨#[105, 58]⟩ : ByteArray) ++ ⟨(Lib.itoa p).toArray⟩ := rfl
      rw [this, ByteArray.size_append]
      rfl
    unfold maxLen
    omega
  cases v with
  | leaf => exact hi
  | mk k n s la ll lc L fa fl fc fn F e key hk =>
    rw [keyM]
    split
    · have e : (kKey key).size = 2 + key.size := by
        unfold kKey
        have : ByteArray.append ⟨#[107, 58]⟩ key = (⟨#[107, 58]⟩ : ByteArray) ++ key := rfl
        rw [this, ByteArray.size_append]
        rfl
      have := hv.2
      show (kKey key).size ≤ maxLen
      unfold maxLen
      omega
    · exact hi
theorem kid_bound {v : V} {c : C} (hv : VB v) (h : v.kid = some c) : (0 ≤ c.kind ∧ c.kind ≤ 255) ∧ c.name.size ≤ maxLen := by
  have hg := kid_good h
  refine ⟨⟨by omega, by omega⟩, ?_⟩
  cases v with
  | leaf => cases h
  | mk k n s la ll lc L fa fl fc fn F e key hk =>
    have h0 : (⟨#[]⟩ : ByteArray).size ≤ maxLen := Nat.zero_le _
    simp only [V.kid, textC] at h
    split at h
    · cases h; exact h0
    · split at h
      · cases h; exact h0
      · split at h
        · cases h; exact hv.1
        · cases h
theorem step_bound {st : St} (h : ∀ c ∈ st.out, CB c) (v : V) (hv : VB v) : ∀ c ∈ (stepK st v).out, CB c := by
  unfold stepK
  cases hkid : v.kid with
  | none => exact h
  | some c =>
    intro d hd
    rcases List.mem_append.1 hd with hd | hd
    · exact h d hd
    · rw [List.mem_singleton] at hd
      subst hd
      have hb := kid_bound hv hkid
      exact ⟨key_bound _ _ _ hv (wrap64_range _), hb⟩
theorem run_bound : ∀ (vs : List V) (st : St), (∀ v ∈ vs, VB v) → (∀ c ∈ st.out, CB c) → ∀ c ∈ (runK st vs).out, CB c
  | [], _, _, h => h
  | v :: r, st, hv, h => by
    have hs := step_bound h v (hv v (List.mem_cons_self ..))
    rw [runK]
    split
    · exact hs
    · exact run_bound r _ (fun x hx => hv x (List.mem_cons_of_mem _ hx)) hs
theorem kids_bound {vs : List V} (h : ∀ v ∈ vs, VB v) : ∀ c ∈ kidsM vs, CB c := run_bound vs _ h (fun c hc => by cases hc)

theorem flat_bound {w : World} : ∀ (v : V), v.In w → v.Keys → ∀ x ∈ v.flatV, VB x := by
  intro v
  induction v with
  | leaf => intro h; exact h.elim
  | mk k n s la ll lc L fa fl fc fn F e key hk ihL ihF =>
    intro h hk' x hx
    unfold V.flatV at hx
    split at hx
    · obtain ⟨i, hi, hx⟩ := List.mem_flatMap.1 hx
      rw [List.mem_range] at hi
      exact ihL i (h.2.2.2.2.2.2.2.1 i hi).2 (hk'.2 i hi) x hx
    · rw [List.mem_singleton] at hx
      subst hx
      exact ⟨h.2.2.1, hk'.1⟩
theorem Lst.bound {w : World} {la : Option Addr} {ll lc : Nat} {L : Nat → V} (h : Lst w la ll lc L) : ∀ x ∈ listV L ll, VB x := by
  intro x hx
  obtain ⟨i, hi, hx⟩ := List.mem_flatMap.1 hx
  rw [List.mem_range] at hi
  exact flat_bound (L i) (h.els i hi).2 (h.key i hi) x hx

theorem sms_mem {a b : List C} (h : Sms a b) : ∀ d ∈ b, ∃ c ∈ a, C.sm c d := by
  induction a generalizing b with
  | nil =>
    cases b with
    | nil => intro d hd; cases hd
    | cons y s => exact h.elim
  | cons x r ih =>
    cases b with
    | nil => exact h.elim
    | cons y s =>
      intro d hd
      rcases List.mem_cons.1 hd with rfl | hd
      · exact ⟨x, List.mem_cons_self .., h.1⟩
      · obtain ⟨c, hc, e⟩ := ih h.2 d hd
        exact ⟨c, List.mem_cons_of_mem _ hc, e⟩
theorem sms_get {a b : List C} (h : Sms a b) : ∀ (i : Nat) (h1 : i < a.length) (h2 : i < b.length), C.sm a[i] b[i] := by
  induction a generalizing b with
  | nil => intro i h1; exact absurd h1 (by simp)
  | cons x r ih =>
    cases b with
    | nil => exact h.elim
    | cons y s =>
      intro i h1 h2
      cases i with
      | zero => exact h.1
      | succ i => exact ih h.2 i _ _
theorem sms_unl {a b : List C} (h : Sms a b) (hp : a.Pairwise (fun x y => x.key ≠ y.key)) : Unl (getC b) b.length := fun i k hi hk e => by
  have hl := h.length
  rw [getC_at hi, getC_at (by omega)] at e
  have e1 := (sms_get h i (by omega) hi).1
  have e2 := (sms_get h k (by omega) (by omega)).1
  have hne := List.pairwise_iff_getElem.1 hp k i (by omega) (by omega) hk
  refine hne ?_
  rw [e1, e2]
  have e' : (b[i]).key.data.toList = (b[k]).key.data.toList := e
  have := Array.toList_inj.1 e'
  cases h1 : (b[i]).key
  cases h2 : (b[k]).key
  rw [h1, h2] at this
  simp only at this
  rw [this]

/-- What Kids hands back: a list of children with unlike keys. -/
theorem kids_clst {w W : World} {vs : List V} {u : Value} {cs : List C} (h : KidsPost w vs u cs W) (hb : ∀ v ∈ vs, VB v) (hn : vs.length ≤ 4611686018427387904) : ∃ a cap, u = .slice a cs.length cap ∧ CLst W a cs.length cap (getC cs) ∧ Unl (getC cs) cs.length ∧ cs.length ≤ 4096 := by
  have hg := kids_good vs hn
  have hkb := kids_bound hb
  have hin : ∀ c ∈ cs, c.In W := fun c hc => by
    obtain ⟨x, hx, e1, e2, e3, -⟩ := sms_mem h.sms c hc
    have := hkb x hx
    unfold CB at this
    rw [e1, e2, e3] at this
    exact ⟨this.1, this.2.1, this.2.2, h.vals c hc⟩
  obtain ⟨a, cap, e, hc⟩ := row_clst rfl h.row hin
  exact ⟨a, cap, e, hc, sms_unl h.sms hg.1, by rw [← h.sms.length]; exact hg.2.2⟩
end Go.Proofs.YtpmkkgndpfbkdaaDoor
namespace Go.Proofs.YtpmkkgndpfbkdaaDoor
set_option linter.unusedVariables false
set_option linter.unusedSimpArgs false
open Go.ChangeShapes Go.WideShapes Go.ChangeAt Go.RowKit Go.Deep

theorem lastM_yes {K : Nat → C} {c : C} {k : Nat} (h : (K k).like c) : lastM K c (k + 1) = (k : Int) := by rw [lastM, if_pos h]
theorem lastM_no {K : Nat → C} {c : C} {k : Nat} (h : ¬ (K k).like c) : lastM K c (k + 1) = lastM K c k := by rw [lastM, if_neg h]
theorem lastM_range (K : Nat → C) (c : C) : ∀ n, -1 ≤ lastM K c n ∧ lastM K c n < n
  | 0 => ⟨by simp [lastM], by simp [lastM]⟩
  | n + 1 => by
    have := lastM_range K c n
    rw [lastM]
    split <;> omega
theorem not_like_key {c d : C} (h : ¬ c.key = d.key) : ¬ c.like d := fun h' => by
  have e : c.key.data.toList = d.key.data.toList := h'.1
  have := Array.toList_inj.1 e
  refine h ?_
  cases h1 : c.key
  cases h2 : d.key
  rw [h1, h2] at this
  simp only at this
  rw [this]
theorem like_key {c d : C} (h : c.key = d.key) : c.like d ↔ c.alike d = true := ⟨fun h' => h'.2, fun h' => ⟨by unfold C.kl; rw [h], h'⟩⟩

set_option maxRecDepth 100000 in
set_option maxHeartbeats 4000000 in
theorem ma_any (la : Option Addr) (ll lc : Nat) (L : Nat → V) (na : Option Addr) (nl nc : Nat) (M : Nat → V) (w : World) (h : Lst w la ll lc L) (h' : Lst w na nl nc M) (hn : (listV L ll).length ≤ 4611686018427387904) (hn' : (listV M nl).length ≤ 4611686018427387904) (ht : Tabs w) :
    Calls Tryd.prog 4 #[.slice la ll lc, .slice na nl nc] w fun x w' => x = .returned (.bool true) ∧ Below w.heap.size w w' := by
  have HAL := Lib.hid (fun W => alive8_any W)
  have HV1 := Lib.hid (fun W (hb : Below w.heap.size w W) => vs_size (h.below hb))
  have HV2 := Lib.hid (fun W (hb : Below w.heap.size w W) => vs_size (h'.below hb))
  have HBY := Lib.hid (fun x hx y hy W => beyond_two x y hx hy W)
  have HKD1 := Lib.hid (fun W (hb : Below w.heap.size w W) => kids_any la ll lc L W (h.below hb) (ht.below hb))
  have HKD2 := Lib.hid (fun W (hb : Below w.heap.size w W) => kids_any na nl nc M W (h'.below hb) (ht.below hb))
  have HV := Lib.hid (And.intro h.bound h'.bound)
  have HN := Lib.hid (And.intro hn hn')
  clear h h' hn hn' ht
  go_enter Tryd.func4, Tryd.ntmps4
  go_wp2_with (first
    | (go_at_call 10; (with_reducible refine (HAL.out w).mono ?_); rintro x w1 ⟨rfl, hb1⟩; have HB1 := Lib.hid hb1; clear hb1)
    | (go_at_call 7; (with_reducible refine (HV1.out _ HB1.out).mono ?_); rintro x w2 ⟨⟨n1, hn1, rfl⟩, hb2⟩; have HB2 : Hid (Below w.heap.size w w2) := HB1.out.trans (hb2.mono HB1.out.size); clear hb2)
    | (go_at_call 7; (with_reducible refine (HV2.out _ HB2.out).mono ?_); rintro x w3 ⟨⟨n2, hn2, rfl⟩, hb3⟩; have HB3 : Hid (Below w.heap.size w w3) := HB2.out.trans (hb3.mono HB2.out.size); clear hb3)
    | (go_at_call 6; (with_reducible refine (HBY.out n1 hn1 n2 hn2 w3).mono ?_); rintro x w4 ⟨⟨bq, rfl⟩, hb4⟩; have HB4 : Hid (Below w.heap.size w w4) := HB3.out.trans (((below_alloc w3 _).trans (hb4.mono (by simp))).mono HB3.out.size); clear hb4)
    | (go_at_call 10; (with_reducible refine (HAL.out w4).mono ?_); rintro x w5 ⟨rfl, hb5⟩; have HB5 : Hid (Below w.heap.size w w5) := HB4.out.trans (hb5.mono HB4.out.size); clear hb5)
    | (go_at_call 8; (with_reducible refine (HKD1.out _ HB4.out).mono ?_); rintro x w5 ⟨u1, cs1, rfl, hp1⟩; obtain ⟨a1, cp1, rfl, hc1, hu1, hl1⟩ := kids_clst hp1 HV.out.1 HN.out.1; have HB5 : Hid (Below w.heap.size w w5) := HB4.out.trans (hp1.low.mono HB4.out.size); have HC1 := Lib.hid hc1; have HU1 := Lib.hid hu1; clear hp1 hc1 hu1)
    | (go_at_call 8; (with_reducible refine (HKD2.out _ HB5.out).mono ?_); rintro x w6 ⟨u2, cs2, rfl, hp2⟩; obtain ⟨a2, cp2, rfl, hc2, hu2, hl2⟩ := kids_clst hp2 HV.out.2 HN.out.2; have HB6 : Hid (Below w.heap.size w w6) := HB5.out.trans (hp2.low.mono HB5.out.size); have HC1b := Lib.hid (HC1.out.below hp2.low); have HC2 := Lib.hid hc2; have HU2 := Lib.hid hu2; clear hp2 hc2 hu2; refine Hid.out ?_))
  · go_ret
    exact ⟨rfl, HB5.out⟩
  refine Lib.hid ?_
  clear HAL HV1 HV2 HBY HKD1 HKD2 HV HN HC1 HB1 HB2 HB3 HB4 HB5
  have q1 : (0 : Int) ≤ (cs1.length : Int) := Int.natCast_nonneg _
  have q2 : (0 : Int) ≤ (cs2.length : Int) := Int.natCast_nonneg _
  by_cases hbig : 400 < cs1.length ∨ 400 < cs2.length
  · by_cases h1 : 400 < cs1.length
    · have e1 : decide ((400 : Int) < (cs1.length : Int)) = true := decide_eq_true (by omega)
      clear hbig
      go_wp2_with fail
      go_ret
      exact ⟨rfl, HB6.out⟩
    · have e1 : decide ((400 : Int) < (cs1.length : Int)) = false := decide_eq_false (by omega)
      have e2 : decide ((400 : Int) < (cs2.length : Int)) = true := decide_eq_true (by omega)
      clear hbig
      go_wp2_with fail
      go_ret
      exact ⟨rfl, HB6.out⟩
  have e1 : decide ((400 : Int) < (cs1.length : Int)) = false := decide_eq_false (by omega)
  have e2 : decide ((400 : Int) < (cs2.length : Int)) = false := decide_eq_false (by omega)
  have z1 : (cs1.length : Int) ≤ 400 := by omega
  have z2 : (cs2.length : Int) ≤ 400 := by omega
  have HM1 := Lib.hid (match_any a1 cs1.length cp1 (getC cs1) a1 cs1.length cp1 (getC cs1) w6 HC1b.out HC1b.out (by omega))
  have HM2 := Lib.hid (fun W (hb : Below w6.heap.size w6 W) => match_any a1 cs1.length cp1 (getC cs1) a2 cs2.length cp2 (getC cs2) W (HC1b.out.below hb) (HC2.out.below hb) (by omega))
  have HE1 := Lib.hid (fun W (hb : Below w6.heap.size w6 W) => (HC1b.out.below hb).els)
  have HE2 := Lib.hid (fun W (hb : Below w6.heap.size w6 W) => (HC2.out.below hb).els)
  clear hbig hl1 hl2 HC1b HC2
  generalize getC cs1 = K at HM1 HM2 HE1 HU1
  generalize getC cs2 = N at HM2 HE2 HU2
  generalize cs1.length = m1 at HM1 HM2 HE1 HU1 q1 e1 z1 ⊢
  generalize cs2.length = m2 at HM2 HE2 HU2 q2 e2 z2 ⊢
  go_wp2_with (first
    | (go_at_call 11; (with_reducible refine HM1.out.mono ?_); rintro x w7 ⟨gs, rfl, hown, hlow⟩; have HO7 := Lib.hid hown.il; have HB7 := Lib.hid hlow; clear hown hlow))
  go_loopw [8] (fun i wr => ∃ j : Nat, j ≤ m1 ∧ i = .int .i64 j ∧ wr = w7) (fun i _ => m1 - (intOf i).toNat)
  case atStart => exact ⟨0, Nat.zero_le _, rfl, rfl⟩
  case round =>
    obtain ⟨j, hj, rfl, rfl⟩ := hrel
    by_cases hlt : j < m1
    · have hj0 : (0 : Int) ≤ (j : Int) := by omega
      have hj1 : (j : Int) < (m1 : Int) := by omega
      obtain ⟨bq, oq, e, hc⟩ := HO7.out j hlt
      simp only [Option.some.injEq, Addr.mk.injEq, and_true] at e
      obtain ⟨rfl, rfl⟩ := e
      rw [Nat.zero_add, matM_self HU1.out hlt] at hc
      go_wp2_with fail
      go_roundw
      case rel => exact ⟨j + 1, by omega, by go_num, trivial⟩
      case measure => simp [intOf]; omega
    · obtain rfl : m1 = j := by omega
      rename_i w7
      go_wp2_with (first
        | (go_at_call 11; (with_reducible refine (HM2.out _ HB7.out).mono ?_); rintro x w8 ⟨gg, rfl, hown, hlow⟩; have HO8 := Lib.hid hown.il; have HB8 : Hid (Below w6.heap.size w6 w8) := HB7.out.trans (hlow.mono HB7.out.size); clear hown hlow))
      clear HO7 HM1 HM2
      go_loopw [10] (fun i wr => ∃ t : Nat, t ≤ m2 ∧ i = .int .i64 t ∧ Below w8.heap.size w8 wr) (fun i _ => m2 - (intOf i).toNat)
      case atStart => exact ⟨0, Nat.zero_le _, rfl, Below.refl _ _⟩
      case round =>
        rename_i wr0
        obtain ⟨j, hj, rfl, hb⟩ := hrel
        have HB := Lib.hid hb
        clear hb
        by_cases hjm : j < m2
        · have hj0 : (0 : Int) ≤ (j : Int) := by omega
          have hj1 : (j : Int) < (m2 : Int) := by omega
          go_wp2_with fail
          obtain ⟨wo, hwo⟩ : ∃ wo : World, wo = wr := ⟨_, rfl⟩
          subst hwo
          go_loopw [11, 12] (fun a i wr' => ∃ (k : Nat) (x : Int), k ≤ m1 ∧ i = .int .i64 k ∧ a = .int .i64 x ∧ x = lastM K (N j) k ∧ Below w8.heap.size w8 wr') (fun _ i _ => m1 - (intOf i).toNat)
          case atStart => exact ⟨0, -1, Nat.zero_le _, rfl, rfl, rfl, HB.out⟩
          case round =>
            obtain ⟨k, x, hk, rfl, rfl, hx, hb⟩ := hrel
            have HX := Lib.hid hx
            have HB' := Lib.hid hb
            have hx0 := (lastM_range K (N j) k)
            have hx1 : -1 ≤ x := by omega
            have hx2 : x ≤ 400 := by omega
            clear hb HB hx hx0
            by_cases hkl : k < m1
            · have hk0 : (0 : Int) ≤ (k : Int) := by omega
              have hk1 : (k : Int) < (m1 : Int) := by omega
              have hw6 : Below w6.heap.size w6 wr := HB8.out.trans (HB'.out.mono HB8.out.size)
              obtain ⟨⟨b1, o1, rfl, hat1⟩, hin1⟩ := HE1.out _ hw6 k hkl
              obtain ⟨⟨b2, o2, rfl, hat⟩, hin⟩ := HE2.out _ hw6 j hjm
              by_cases hkey : (K k).key = (N j).key
              · have HE : Hid (∀ W, Below wr.heap.size wr W → Calls Tryd.prog 12 #[(K k).agg, (N j).agg] W fun x w' => x = .returned (.bool ((K k).alike (N j))) ∧ Below W.heap.size W w') := Lib.hid (fun W hb => alike_all (K k) (N j) W (hin1.2.2.2.below hb) (hin.2.2.2.below hb))
                have HXY : Hid ((K k).alike (N j) = true → (k : Int) = lastM K (N j) (k + 1)) := Lib.hid (fun h => (lastM_yes ((like_key hkey).2 h)).symm)
                have HXN : Hid ((K k).alike (N j) = false → x = lastM K (N j) (k + 1)) := Lib.hid (fun h => by rw [lastM_no (fun h' => by rw [(like_key hkey).1 h'] at h; cases h)]; exact HX.out)
                clear hw6 HX
                obtain ⟨q, hq⟩ : ∃ q, (K k).alike (N j) = q := ⟨_, rfl⟩
                rw [hq] at HE HXY HXN
                obtain ⟨c1, hc1⟩ : ∃ c, K k = c := ⟨_, rfl⟩
                obtain ⟨c2, hc2⟩ : ∃ c, N j = c := ⟨_, rfl⟩
                rw [hc1] at hat1 hin1 HE hkey
                rw [hc2] at hat hin HE hkey
                clear hq hc1 hc2
                have hv1 : c1.val.In wr := hin1.2.2.2
                have hv2 : c2.val.In wr := hin.2.2.2
                obtain ⟨ck1, ce1, cn1, v1⟩ := c1
                cases v1 with
                | leaf => exact (hv1).elim
                | mk k1 n1 s1 la1 ll1 lc1 L1 fa1 fl1 fc1 fn1 F1 e1 key1 hk1 =>
                obtain ⟨ck2, ce2, cn2, v2⟩ := c2
                cases v2 with
                | leaf => exact (hv2).elim
                | mk k2 n2 s2 la2 ll2 lc2 L2 fa2 fl2 fc2 fn2 F2 e2 key2 hk2 =>
                have hkey : ck1 = ck2 := hkey
                subst hkey
                have KS : Hid (∀ W, Below wr.heap.size wr W → (fun W => Below wr.heap.size wr W ∧ W.cell? ⟨b1, o1 + k * 11, none⟩ = some (.string ck1) ∧ W.cell? ⟨b1, o1 + k * 11 + 1, none⟩ = some (.int .u8 ce1) ∧ W.cell? ⟨b1, o1 + k * 11 + 2, none⟩ = some (.string cn1) ∧ W.cell? ⟨b1, o1 + k * 11 + 3, none⟩ = some (.int .u8 k1) ∧ W.cell? ⟨b1, o1 + k * 11 + 4, none⟩ = some (.int .i64 n1) ∧ W.cell? ⟨b1, o1 + k * 11 + 5, none⟩ = some (.string s1) ∧ W.cell? ⟨b1, o1 + k * 11 + 6, none⟩ = some (.slice la1 ll1 lc1) ∧ W.cell? ⟨b1, o1 + k * 11 + 7, none⟩ = some (.slice fa1 fl1 fc1) ∧ W.cell? ⟨b1, o1 + k * 11 + 8, none⟩ = some (.int .u8 e1) ∧ W.cell? ⟨b1, o1 + k * 11 + 9, none⟩ = some (.string key1) ∧ W.cell? ⟨b1, o1 + k * 11 + 10, none⟩ = some (.bool hk1) ∧ W.cell? ⟨b2, o2 + j * 11, none⟩ = some (.string ck1) ∧ W.cell? ⟨b2, o2 + j * 11 + 1, none⟩ = some (.int .u8 ce2) ∧ W.cell? ⟨b2, o2 + j * 11 + 2, none⟩ = some (.string cn2) ∧ W.cell? ⟨b2, o2 + j * 11 + 3, none⟩ = some (.int .u8 k2) ∧ W.cell? ⟨b2, o2 + j * 11 + 4, none⟩ = some (.int .i64 n2) ∧ W.cell? ⟨b2, o2 + j * 11 + 5, none⟩ = some (.string s2) ∧ W.cell? ⟨b2, o2 + j * 11 + 6, none⟩ = some (.slice la2 ll2 lc2) ∧ W.cell? ⟨b2, o2 + j * 11 + 7, none⟩ = some (.slice fa2 fl2 fc2) ∧ W.cell? ⟨b2, o2 + j * 11 + 8, none⟩ = some (.int .u8 e2) ∧ W.cell? ⟨b2, o2 + j * 11 + 9, none⟩ = some (.string key2) ∧ W.cell? ⟨b2, o2 + j * 11 + 10, none⟩ = some (.bool hk2)) W) := fun W hb => by
                  have ha := hat1.below hb
                  have hb2 := hat.below hb
                  exact ⟨hb, ha 0 (by simp [C.cells, V.cells]), ha 1 (by simp [C.cells, V.cells]), ha 2 (by simp [C.cells, V.cells]), ha 3 (by simp [C.cells, V.cells]), ha 4 (by simp [C.cells, V.cells]), ha 5 (by simp [C.cells, V.cells]), ha 6 (by simp [C.cells, V.cells]), ha 7 (by simp [C.cells, V.cells]), ha 8 (by simp [C.cells, V.cells]), ha 9 (by simp [C.cells, V.cells]), ha 10 (by simp [C.cells, V.cells]), hb2 0 (by simp [C.cells, V.cells]), hb2 1 (by simp [C.cells, V.cells]), hb2 2 (by simp [C.cells, V.cells]), hb2 3 (by simp [C.cells, V.cells]), hb2 4 (by simp [C.cells, V.cells]), hb2 5 (by simp [C.cells, V.cells]), hb2 6 (by simp [C.cells, V.cells]), hb2 7 (by simp [C.cells, V.cells]), hb2 8 (by simp [C.cells, V.cells]), hb2 9 (by simp [C.cells, V.cells]), hb2 10 (by simp [C.cells, V.cells])⟩
                have hS0 := KS.out _ (Below.refl _ _)
                clear hat1 hin1 hat hin hv1 hv2
                simp only [C.agg, C.cells, V.cells] at HE
                cases q
                all_goals
                  go_wp2_with fail
                  go_region_held3 (fun W => Below wr.heap.size wr W ∧ W.cell? ⟨b1, o1 + k * 11, none⟩ = some (.string ck1) ∧ W.cell? ⟨b1, o1 + k * 11 + 1, none⟩ = some (.int .u8 ce1) ∧ W.cell? ⟨b1, o1 + k * 11 + 2, none⟩ = some (.string cn1) ∧ W.cell? ⟨b1, o1 + k * 11 + 3, none⟩ = some (.int .u8 k1) ∧ W.cell? ⟨b1, o1 + k * 11 + 4, none⟩ = some (.int .i64 n1) ∧ W.cell? ⟨b1, o1 + k * 11 + 5, none⟩ = some (.string s1) ∧ W.cell? ⟨b1, o1 + k * 11 + 6, none⟩ = some (.slice la1 ll1 lc1) ∧ W.cell? ⟨b1, o1 + k * 11 + 7, none⟩ = some (.slice fa1 fl1 fc1) ∧ W.cell? ⟨b1, o1 + k * 11 + 8, none⟩ = some (.int .u8 e1) ∧ W.cell? ⟨b1, o1 + k * 11 + 9, none⟩ = some (.string key1) ∧ W.cell? ⟨b1, o1 + k * 11 + 10, none⟩ = some (.bool hk1) ∧ W.cell? ⟨b2, o2 + j * 11, none⟩ = some (.string ck1) ∧ W.cell? ⟨b2, o2 + j * 11 + 1, none⟩ = some (.int .u8 ce2) ∧ W.cell? ⟨b2, o2 + j * 11 + 2, none⟩ = some (.string cn2) ∧ W.cell? ⟨b2, o2 + j * 11 + 3, none⟩ = some (.int .u8 k2) ∧ W.cell? ⟨b2, o2 + j * 11 + 4, none⟩ = some (.int .i64 n2) ∧ W.cell? ⟨b2, o2 + j * 11 + 5, none⟩ = some (.string s2) ∧ W.cell? ⟨b2, o2 + j * 11 + 6, none⟩ = some (.slice la2 ll2 lc2) ∧ W.cell? ⟨b2, o2 + j * 11 + 7, none⟩ = some (.slice fa2 fl2 fc2) ∧ W.cell? ⟨b2, o2 + j * 11 + 8, none⟩ = some (.int .u8 e2) ∧ W.cell? ⟨b2, o2 + j * 11 + 9, none⟩ = some (.string key2) ∧ W.cell? ⟨b2, o2 + j * 11 + 10, none⟩ = some (.bool hk2))
                    (first | exact KS.out _ ((Below.refl _ _).drew) | exact KS.out _ (Below.trans (And.left (by assumption)) (Below.mono (by assumption) (Below.size (And.left (by assumption))))))
                    (first | (go_at_call 12; (with_reducible refine (HE.out _ ?_).mono ?_); (go_split_ands; assumption); rintro x wx ⟨rfl, hbx⟩))
                  have HZ : Hid (Below w8.heap.size w8 _) := Lib.hid (HB'.out.trans ((And.left (by assumption : (fun W => Below wr.heap.size wr W ∧ W.cell? ⟨b1, o1 + k * 11, none⟩ = some (.string ck1) ∧ W.cell? ⟨b1, o1 + k * 11 + 1, none⟩ = some (.int .u8 ce1) ∧ W.cell? ⟨b1, o1 + k * 11 + 2, none⟩ = some (.string cn1) ∧ W.cell? ⟨b1, o1 + k * 11 + 3, none⟩ = some (.int .u8 k1) ∧ W.cell? ⟨b1, o1 + k * 11 + 4, none⟩ = some (.int .i64 n1) ∧ W.cell? ⟨b1, o1 + k * 11 + 5, none⟩ = some (.string s1) ∧ W.cell? ⟨b1, o1 + k * 11 + 6, none⟩ = some (.slice la1 ll1 lc1) ∧ W.cell? ⟨b1, o1 + k * 11 + 7, none⟩ = some (.slice fa1 fl1 fc1) ∧ W.cell? ⟨b1, o1 + k * 11 + 8, none⟩ = some (.int .u8 e1) ∧ W.cell? ⟨b1, o1 + k * 11 + 9, none⟩ = some (.string key1) ∧ W.cell? ⟨b1, o1 + k * 11 + 10, none⟩ = some (.bool hk1) ∧ W.cell? ⟨b2, o2 + j * 11, none⟩ = some (.string ck1) ∧ W.cell? ⟨b2, o2 + j * 11 + 1, none⟩ = some (.int .u8 ce2) ∧ W.cell? ⟨b2, o2 + j * 11 + 2, none⟩ = some (.string cn2) ∧ W.cell? ⟨b2, o2 + j * 11 + 3, none⟩ = some (.int .u8 k2) ∧ W.cell? ⟨b2, o2 + j * 11 + 4, none⟩ = some (.int .i64 n2) ∧ W.cell? ⟨b2, o2 + j * 11 + 5, none⟩ = some (.string s2) ∧ W.cell? ⟨b2, o2 + j * 11 + 6, none⟩ = some (.slice la2 ll2 lc2) ∧ W.cell? ⟨b2, o2 + j * 11 + 7, none⟩ = some (.slice fa2 fl2 fc2) ∧ W.cell? ⟨b2, o2 + j * 11 + 8, none⟩ = some (.int .u8 e2) ∧ W.cell? ⟨b2, o2 + j * 11 + 9, none⟩ = some (.string key2) ∧ W.cell? ⟨b2, o2 + j * 11 + 10, none⟩ = some (.bool hk2)) _)).mono HB'.out.size))
                  go_wp2_with fail
                  go_roundw
                  case rel => first | exact ⟨k + 1, _, by omega, by go_num, rfl, HXN.out (by trivial), HZ.out⟩ | exact ⟨k + 1, _, by omega, by go_num, rfl, HXY.out (by trivial), HZ.out⟩
                  case measure => simp [intOf]; omega
              · have HXN : Hid (x = lastM K (N j) (k + 1)) := Lib.hid (by rw [lastM_no (not_like_key hkey)]; exact HX.out)
                have hbn : ((K k).key.toList == (N j).key.toList) = false := bytes_ne hkey
                have f1 : wr.cell? ⟨b1, o1 + k * 11, none⟩ = some (.string (K k).key) := hat1 0 (by simp [C.cells])
                have f2 : wr.cell? ⟨b2, o2 + j * 11, none⟩ = some (.string (N j).key) := hat 0 (by simp [C.cells])
                clear hat1 hat hin1 hin hkey hw6 HX
                generalize (K k).key = x1 at f1 hbn
                generalize (N j).key = x2 at f2 hbn
                go_upto_region 20 with fail
                go_quiet (fail)
                have HZ := Lib.hid (HB'.out.trans ((below_drawM _ nq).mono HB'.out.size))
                go_wp2_with fail
                refine ⟨⟨k + 1, x, by omega, by go_num, rfl, HXN.out, HZ.out⟩, by simp [intOf]; omega⟩
            · obtain rfl : m1 = k := by omega
              obtain ⟨bq, oq, e, hc⟩ := (HO8.out.below HB'.out) j hjm
              simp only [Option.some.injEq, Addr.mk.injEq, and_true] at e
              obtain ⟨rfl, rfl⟩ := e
              rw [Nat.zero_add, matM_last HU1.out HU2.out hjm, ← HX.out] at hc
              clear HX
              go_wp2_with fail
              go_roundw
              case rel => exact ⟨j + 1, by omega, by go_num, HB'.out⟩
              case measure => simp [intOf]; omega
        · obtain rfl : m2 = j := by omega
          have HF : Hid (Below w.heap.size w wr) := Lib.hid (HB6.out.trans ((HB8.out.trans (HB.out.mono HB8.out.size)).mono HB6.out.size))
          go_wp2_with fail
          go_ret
          exact ⟨rfl, HF.out⟩
end Go.Proofs.YtpmkkgndpfbkdaaDoor
