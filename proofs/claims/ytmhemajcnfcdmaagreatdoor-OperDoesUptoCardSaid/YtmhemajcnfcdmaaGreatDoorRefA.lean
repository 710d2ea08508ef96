/-
  Plain: what the reference's shape comes to ('V.rsh'), and that it is being of shape. No program is imported.
  Conditions: none.
  Walks: the reference's Name, only, named answer 'rName', 'rOnly', 'justB'; old memory is as it was.
  Conditions: what is read lies in memory.
  Walks: the reference's named answers 'justB'; old memory is as it was.
  Conditions: the fields' names and the names lie in memory.
  Walks: the reference's values, fields answer for lists of values of which 'shaped' answers; old memory is as it was.
  Conditions: the values lie in memory.
-/
import Derived.Test.YtmhemajcnfcdmaaGreatDoorOMb
import Derived.Test.YtmhemajcnfcdmaaGreatDoorCheckW
import Derived.Sort.Walk0
import Derived.Test.YtmhemajcnfcdmaaGreatDoorOMg
import Derived.StillTailTactics
import Derived.IntWalk
namespace Go.Proofs.YtmhemajcnfcdmaaGreatDoor
def rName (s : ByteArray) : Bool := decide (1 ≤ s.size) && decide (s.size ≤ 4096)
def rOnly (a b c d : Bool) (n : Int) (s : ByteArray) (ll fl : Nat) (e : Int) (key : ByteArray) (hk : Bool) : Bool :=
  (a || decide (n = 0)) && ((b || emptyB s) && ((c || decide (ll = 0)) && ((d || decide (fl = 0)) && (decide (e = 0) && (emptyB key && !hk)))))
def rUp (fn : Nat → ByteArray) : Nat → Bool
  | 0 => true
  | i + 1 => Op.bytesLess (fn i).toList (fn (i + 1)).toList
def rFields (fl : Nat) (fn : Nat → ByteArray) (g : Nat → Bool) : Bool := allB fl (fun i => rName (fn i) && (rUp fn i && g i))
def rElem (n : Int) (s : ByteArray) (fl : Nat) (fn : Nat → ByteArray) (e : Int) (key : ByteArray) (hk gF gL : Bool) : Bool :=
  decide (n = 0) && ((hk || emptyB key) && (decide (key.size ≤ 4096) && (gF && (gL &&
    (if e = 1 ∨ e = 2 ∨ e = 3 then rName s else if e = 4 then emptyB s && decide (fl = 0) else if e = 5 then rName s && decide (fl = 0) else if e = 6 then rName s && justB fl fn 1 nsValue
     else if e = 7 then emptyB s && justB fl fn 2 nsGuard else if e = 8 then emptyB s && justB fl fn 1 nsElse else false)))))
def rShape (k n : Int) (s : ByteArray) (ll fl : Nat) (fn : Nat → ByteArray) (e : Int) (key : ByteArray) (hk gF gL : Bool) : Bool :=
  if k = 0 then rOnly false false false false n s ll fl e key hk
  else if k = 1 then rOnly true false false false n s ll fl e key hk
  else if k = 2 then rOnly true false false false n s ll fl e key hk && (decide (n = 0) || decide (n = 1))
  else if k = 3 then rOnly false true false false n s ll fl e key hk && decide (s.size ≤ 4096)
  else if k = 4 then rOnly false false true false n s ll fl e key hk && gL
  else if k = 5 then rOnly false false false true n s ll fl e key hk && gF
  else if k = 7 then rOnly true true false true n s ll fl e key hk && (decide (s.size ≤ 4096) && gF)
  else if k = 6 then rElem n s fl fn e key hk gF gL
  else false
def V.rsh : V → Bool
  | .leaf => false
  | .mk k n s _ ll _ L _ fl _ fn F e key hk => rShape k n s ll fl fn e key hk (rFields fl fn (fun i => (F i).rsh)) (allB ll (fun i => (L i).rsh))
theorem less_iff (a b : ByteArray) : Op.bytesLess a.toList b.toList = !(bLe b a) := by
  rw [bLe, bytesLess_eq, bytesLess_eq, Bool.eq_iff_iff]
  simp only [decide_eq_true_eq, Bool.not_eq_true', Bool.or_eq_false_iff, decide_eq_false_iff_not, beq_eq_false_iff_ne, ne_eq]
  constructor
  · intro h
    exact ⟨fun h2 => List.lt_asymm h h2, fun h2 => by rw [h2] at h; exact List.lt_irrefl _ h⟩
  · rintro ⟨h1, h2⟩
    by_cases h : a.toList < b.toList
    · exact h
    · rcases List.le_iff_lt_or_eq.1 (List.not_lt.1 h) with h | h
      · exact absurd h h1
      · exact absurd h h2
theorem name_pos {s : ByteArray} : bLe s ⟨#[]⟩ = decide (s.size = 0) := by
  rw [bLe, Bool.eq_iff_iff, ByteArray.toList_eq, ByteArray.toList_eq]
  have e0 : (⟨#[]⟩ : ByteArray).data.toList = [] := rfl
  have hz : s.size = s.data.toList.length := rfl
  rw [e0, hz]
  cases s.data.toList <;> simp [Op.bytesLess]
theorem rFields_is (fl : Nat) (fn : Nat → ByteArray) (g : Nat → Bool) : rFields fl fn g = (risingB fl fn && allB fl g) := by
  rw [Bool.eq_iff_iff, Bool.and_eq_true, rFields, risingB, allB_iff, allB_iff, allB_iff]
  constructor
  · intro h
    refine ⟨fun i hi => ?_, fun i hi => ?_⟩
    · have h1 := h i hi
      simp only [rName, Bool.and_eq_true, decide_eq_true_eq] at h1
      cases i with
      | zero =>
        simp only [lastB, name_pos, Bool.and_eq_true, Bool.not_eq_true', decide_eq_false_iff_not, decide_eq_true_eq]
        omega
      | succ i =>
        have h2 := h1.2.1
        rw [rUp, less_iff] at h2
        simp only [lastB, Bool.and_eq_true, decide_eq_true_eq]
        exact ⟨h2, h1.1.2⟩
    · have h1 := h i hi
      simp only [Bool.and_eq_true] at h1
      exact h1.2.2
  · rintro ⟨h, hg⟩ i hi
    have h1 := h i hi
    simp only [Bool.and_eq_true, decide_eq_true_eq] at h1
    simp only [rName, Bool.and_eq_true, decide_eq_true_eq]
    cases i with
    | zero =>
      simp only [lastB, name_pos, Bool.not_eq_true', decide_eq_false_iff_not] at h1
      exact ⟨⟨by omega, h1.2⟩, rfl, hg 0 hi⟩
    | succ i =>
      have h2 := h1.1
      simp only [lastB] at h2
      refine ⟨⟨?_, h1.2⟩, ?_, hg _ hi⟩
      · rcases Nat.eq_zero_or_pos (fn (i + 1)).size with h0 | h0
        · exfalso
          have h3 : bLe (fn (i + 1)) ⟨#[]⟩ = true := by rw [name_pos, decide_eq_true_eq]; exact h0
          have h4 : (fn (i + 1)).data.toList = [] := List.eq_nil_of_length_eq_zero h0
          rw [bLe, ByteArray.toList_eq, h4, ByteArray.toList_eq] at h2
          cases h5 : (fn i).data.toList <;> rw [h5] at h2 <;> simp [Op.bytesLess] at h2
        · exact h0
      · rw [rUp, less_iff]; exact h2
theorem name_is (s : ByteArray) : rName s = (!emptyB s && decide (s.size ≤ 4096)) := by
  have h : decide (1 ≤ s.size) = !emptyB s := by
    rw [Bool.eq_iff_iff, emptyB]
    simp only [decide_eq_true_eq, Bool.not_eq_true', decide_eq_false_iff_not]
    constructor
    · rintro h rfl
      exact absurd h (by decide)
    · intro h
      rcases Nat.eq_zero_or_pos s.size with h0 | h0
      · exfalso
        apply h
        have : s.data.toList = [] := List.eq_nil_of_length_eq_zero h0
        exact WideShapes.bytes_inj (by rw [this]; rfl)
      · exact h0
  rw [rName, h]
theorem empty_size {s : ByteArray} (h : emptyB s = true) : s.size = 0 := by
  rw [emptyB, decide_eq_true_eq] at h
  rw [h]; rfl
theorem rElemPart_is (s : ByteArray) (fl : Nat) (fn : Nat → ByteArray) (e : Int) (hs : s.size ≤ 4096) :
    (if e = 1 ∨ e = 2 ∨ e = 3 then rName s else if e = 4 then emptyB s && decide (fl = 0) else if e = 5 then rName s && decide (fl = 0) else if e = 6 then rName s && justB fl fn 1 nsValue
     else if e = 7 then emptyB s && justB fl fn 2 nsGuard else if e = 8 then emptyB s && justB fl fn 1 nsElse else false) = isElemB s fl fn e := by
  simp only [isElemB, name_is, decide_eq_true hs, Bool.and_true, justB, allB, List.range_zero, List.all_nil]
theorem rElemPart_lim (s : ByteArray) (fl : Nat) (fn : Nat → ByteArray) (e : Int) (h :
    (if e = 1 ∨ e = 2 ∨ e = 3 then rName s else if e = 4 then emptyB s && decide (fl = 0) else if e = 5 then rName s && decide (fl = 0) else if e = 6 then rName s && justB fl fn 1 nsValue
     else if e = 7 then emptyB s && justB fl fn 2 nsGuard else if e = 8 then emptyB s && justB fl fn 1 nsElse else false) = true) : s.size ≤ 4096 := by
  repeat' split at h
  all_goals first
    | (simp only [rName, Bool.and_eq_true, decide_eq_true_eq] at h; omega)
    | (have := empty_size (Bool.and_eq_true_iff.1 h).1; omega)
    | exact absurd h (by decide)
theorem rShape_is (k n : Int) (s : ByteArray) (ll fl : Nat) (fn : Nat → ByteArray) (e : Int) (key : ByteArray) (hk gF gL : Bool) (hk0 : 0 ≤ k) (hF : fl = 0 → gF = true) (hL : ll = 0 → gL = true) :
    rShape k n s ll fl fn e key hk (risingB fl fn && gF) gL = (shapeB k n s ll fl fn e key hk && (gL && gF)) := by
  have hr0 : fl = 0 → risingB fl fn = true := fun h => by subst h; rfl
  by_cases h8 : k < 8
  · obtain rfl | rfl | rfl | rfl | rfl | rfl | rfl | rfl : k = 0 ∨ k = 1 ∨ k = 2 ∨ k = 3 ∨ k = 4 ∨ k = 5 ∨ k = 6 ∨ k = 7 := by omega
    all_goals
      have e1 : emptyB s = true → decide (s.size ≤ 4096) = true := fun h => by rw [decide_eq_true_eq, empty_size h]; omega
      have e2 : emptyB key = true → decide (key.size ≤ 4096) = true := fun h => by rw [decide_eq_true_eq, empty_size h]; omega
    case inr.inr.inr.inr.inr.inr.inl =>
      simp only [rShape, rElem, shapeB, inRowB, inLimB]
      by_cases hs : s.size ≤ 4096
      · rw [rElemPart_is s fl fn e hs]
        generalize isElemB s fl fn e = ie
        generalize emptyB key = ek at e2
        generalize emptyB s = es at e1
        generalize risingB fl fn = rf at hr0
        cases ie <;> cases ek <;> cases hk <;> cases rf <;> cases gF <;> cases gL <;> simp_all
      · have hne : (if e = 1 ∨ e = 2 ∨ e = 3 then rName s else if e = 4 then emptyB s && decide (fl = 0) else if e = 5 then rName s && decide (fl = 0) else if e = 6 then rName s && justB fl fn 1 nsValue
          else if e = 7 then emptyB s && justB fl fn 2 nsGuard else if e = 8 then emptyB s && justB fl fn 1 nsElse else false) = false := by
          rw [Bool.eq_false_iff]
          exact fun h => hs (rElemPart_lim s fl fn e h)
        rw [hne]
        simp [hs]
    all_goals
      simp only [rShape, rOnly, shapeB, inRowB, inLimB]
      generalize decide (s.size ≤ 4096) = ds at e1
      generalize decide (key.size ≤ 4096) = dk at e2
      generalize emptyB key = ek at e2
      generalize emptyB s = es at e1
      generalize risingB fl fn = rf at hr0
      by_cases hfl : fl = 0 <;> by_cases hll : ll = 0 <;> by_cases hn : n = 0 <;> by_cases he : e = 0
      all_goals cases ek <;> cases hk <;> cases es <;> simp_all [Bool.and_assoc]
  · have h1 : ¬ k = 0 ∧ ¬ k = 1 ∧ ¬ k = 2 ∧ ¬ k = 3 ∧ ¬ k = 4 ∧ ¬ k = 5 ∧ ¬ k = 6 ∧ ¬ k = 7 := by omega
    simp [rShape, shapeB, inRowB, h8, h1]
theorem rsh_iff {w : World} : ∀ v : V, v.In w → (v.rsh = true ↔ v.shaped) := by
  intro v
  induction v with
  | leaf => exact fun h => h.elim
  | mk k n s la ll lc L fa fl fc fn F e key hk ihL ihF =>
  intro h
  obtain ⟨hk0, -, -, -, -, -, -, hL, hF⟩ := h
  rw [V.rsh, rFields_is, rShape_is _ _ _ _ _ _ _ _ _ _ _ hk0.1 (fun h => by subst h; rfl) (fun h => by subst h; rfl)]
  simp only [Bool.and_eq_true, allB_iff, V.shaped]
  constructor
  · rintro ⟨h1, h2, h3⟩
    exact ⟨h1, fun i hi => (ihL i (hL i hi).2).1 (h2 i hi), fun i hi => (ihF i (hF i hi).2.2).1 (h3 i hi)⟩
  · rintro ⟨h1, h2, h3⟩
    exact ⟨h1, fun i hi => (ihL i (hL i hi).2).2 (h2 i hi), fun i hi => (ihF i (hF i hi).2.2).2 (h3 i hi)⟩
theorem rCheck_is {w : World} {v : V} (h : v.In w) : (v.rsh && (decide (v.size ≤ 4096) && decide (v.depth ≤ 64))) = v.check := by
  rw [Bool.eq_iff_iff, check_iff]
  simp only [Bool.and_eq_true, decide_eq_true_eq, rsh_iff v h]
end Go.Proofs.YtmhemajcnfcdmaaGreatDoor
namespace Go.Proofs.YtmhemajcnfcdmaaGreatDoor
open Go.RowKit
theorem name_any (s : ByteArray) (w : World) (hs : s.size ≤ maxLen) : Calls Tryz.prog 169 #[.string s] w fun x w' => x = .returned (.bool (rName s)) ∧ w = w' := by
  unfold maxLen at hs
  by_cases h1 : 1 ≤ s.size
  · by_cases h2 : s.size ≤ 4096
    · have R := Lib.hid (show Ending.returned (.bool true) = .returned (.bool (rName s)) by simp [rName, h1, h2])
      have h1' : (1 : Int) ≤ (s.size : Int) := by omega
      have h2' : (s.size : Int) ≤ 4096 := by omega
      go_enter Tryz.func169, Tryz.ntmps169
      go_wp2_with fail
      go_ret
      exact ⟨R.out, rfl⟩
    · have R := Lib.hid (show Ending.returned (.bool false) = .returned (.bool (rName s)) by simp [rName, h1, h2])
      have h1' : (1 : Int) ≤ (s.size : Int) := by omega
      have h2' : ¬ (s.size : Int) ≤ 4096 := by omega
      go_enter Tryz.func169, Tryz.ntmps169
      go_wp2_with fail
      go_ret
      exact ⟨R.out, rfl⟩
  · have R := Lib.hid (show Ending.returned (.bool false) = .returned (.bool (rName s)) by simp [rName, h1])
    have h1' : ¬ (1 : Int) ≤ (s.size : Int) := by omega
    go_enter Tryz.func169, Tryz.ntmps169
    go_wp2_with fail
    go_ret
    exact ⟨R.out, rfl⟩
set_option maxHeartbeats 4000000 in
theorem only_any (a b c d : Bool) (k n : Int) (s : ByteArray) (la : Option Addr) (ll lc : Nat) (fa : Option Addr) (fl fc : Nat) (e : Int) (key : ByteArray) (hk : Bool) (w : World) (_hl : ll ≤ maxLen) (_hf : fl ≤ maxLen) :
    Calls Tryz.prog 142 #[.agg #[.int .u8 k, .int .i64 n, .string s, .slice la ll lc, .slice fa fl fc, .int .u8 e, .string key, .bool hk], .bool a, .bool b, .bool c, .bool d] w
      fun x w' => x = .returned (.bool (rOnly a b c d n s ll fl e key hk)) ∧ Below w.heap.size w w' := by
  unfold maxLen at _hl _hf
  have HR := Lib.hid (show rOnly a b c d n s ll fl e key hk = ((a || decide (n = 0)) && ((b || emptyB s) && ((c || decide (ll = 0)) && ((d || decide (fl = 0)) && (decide (e = 0) && (emptyB key && !hk)))))) from rfl)
  generalize rOnly a b c d n s ll fl e key hk = q at HR ⊢
  obtain ⟨qn, hqn⟩ : ∃ x, decide (n = 0) = x := ⟨_, rfl⟩
  obtain ⟨qs, hqs⟩ : ∃ x, emptyB s = x := ⟨_, rfl⟩
  obtain ⟨ql, hql⟩ : ∃ x, decide (ll = 0) = x := ⟨_, rfl⟩
  obtain ⟨qf, hqf⟩ : ∃ x, decide (fl = 0) = x := ⟨_, rfl⟩
  obtain ⟨qe, hqe⟩ : ∃ x, decide (e = 0) = x := ⟨_, rfl⟩
  obtain ⟨qk, hqk⟩ : ∃ x, emptyB key = x := ⟨_, rfl⟩
  have HR2 : Hid (q = ((a || qn) && ((b || qs) && ((c || ql) && ((d || qf) && (qe && (qk && !hk))))))) := by rw [← hqn, ← hqs, ← hql, ← hqf, ← hqe, ← hqk]; exact HR.out
  have s1 : s.toList.isEmpty = qs := by rw [empty_is, hqs]
  have s2 : (s.toList == ByteArray.toList ⟨#[]⟩) = qs := by rw [lit_empty, hqs]
  have s3 : key.toList.isEmpty = qk := by rw [empty_is, hqk]
  have s4 : (key.toList == ByteArray.toList ⟨#[]⟩) = qk := by rw [lit_empty, hqk]
  have s5 : (n == 0) = qn := hqn
  have s6 : (e == 0) = qe := hqe
  have s7 : ((ll : Int) == 0) = ql := by rw [← hql, Bool.eq_iff_iff]; simp
  have s8 : ((fl : Int) == 0) = qf := by rw [← hqf, Bool.eq_iff_iff]; simp
  clear HR hqn hqs hql hqf hqe hqk
  go_enter Tryz.func142, Tryz.ntmps142
  go_wp2_with fail
  all_goals
    go_ret
    refine ⟨?_, below_alloc _ _⟩
    have hq := HR2.out
    clear HR2 s1 s2 s3 s4 s5 s6 s7 s8
    simp_all
end Go.Proofs.YtmhemajcnfcdmaaGreatDoor
namespace Go.Proofs.YtmhemajcnfcdmaaGreatDoor
open Go.RowKit
set_option maxHeartbeats 2000000 in
theorem named_any (fa : Option Addr) (fl fc : Nat) (fn : Nat → ByteArray) (na : Option Addr) (m mc : Nat) (ns : Nat → ByteArray) (w : World) (hlc : fl ≤ fc ∧ fc ≤ maxLen) (hm : m ≤ 1000)
    (h : ∀ i, i < fl → ∃ b o, fa = some ⟨b, o, none⟩ ∧ w.cell? ⟨b, o + i * 9, none⟩ = some (.string (fn i)))
    (h' : ∀ i, i < m → ∃ b, na = some ⟨b, 0, none⟩ ∧ w.cell? ⟨b, i, none⟩ = some (.string (ns i))) :
    Calls Tryz.prog 170 #[.slice fa fl fc, .slice na m mc] w fun x w' => x = .returned (.bool (justB fl fn m ns)) ∧ Below w.heap.size w w' := by
  unfold maxLen at hlc
  by_cases hne : fl = m
  · subst hne
    by_cases hz : fl = 0
    · subst hz
      have R := Lib.hid (show Ending.returned (.bool true) = .returned (.bool (justB 0 fn 0 ns)) by simp [justB, allB])
      clear h h'
      go_enter Tryz.func170, Tryz.ntmps170
      go_wp2_with fail
      go_loopw [5] (fun i wr => i = .int .i64 0 ∧ w = wr) (fun _ _ => 0)
      case atStart => exact ⟨rfl, rfl⟩
      case round =>
        obtain ⟨rfl, rfl⟩ := hrel
        go_wp2_with fail
        go_ret
        exact ⟨R.out, Below.refl _ _⟩
    · obtain ⟨b, o, rfl, -⟩ := h 0 (by omega)
      obtain ⟨b', rfl, -⟩ := h' 0 (by omega)
      have H := Lib.hid h
      have H' := Lib.hid h'
      clear h h'
      go_enter Tryz.func170, Tryz.ntmps170
      go_wp2_with fail
      go_loopw [5] (fun i wr => ∃ k : Nat, k ≤ fl ∧ i = .int .i64 k ∧ HeldTo k (fun i => decide (fn i = ns i)) ∧ ∃ q, wr = w.drewN q) (fun i _ => fl - (intOf i).toNat)
      case atStart => exact ⟨0, Nat.zero_le _, rfl, HeldTo.zero, 0, rfl⟩
      case round =>
        obtain ⟨k, hk, rfl, hheld, dq, rfl⟩ := hrel
        have HH := Lib.hid hheld
        clear hheld
        by_cases hlt : k < fl
        · obtain ⟨b1, o1, he, c0⟩ := H.out k hlt
          simp only [Option.some.injEq, Addr.mk.injEq, and_true] at he
          obtain ⟨rfl, rfl⟩ := he
          obtain ⟨b1, he, d0⟩ := H'.out k hlt
          simp only [Option.some.injEq, Addr.mk.injEq, and_true] at he
          subst he
          have R1 := Lib.hid (show decide (fn k = ns k) = false → Ending.returned (.bool false) = .returned (.bool (justB fl fn fl ns)) from fun h1 => by rw [justB, allB_false hlt h1, Bool.and_false])
          have R2 := Lib.hid (show decide (fn k = ns k) = true → HeldTo (k + 1) (fun i => decide (fn i = ns i)) from fun h1 => HH.out.succ h1)
          generalize fn k = x at c0 R1 R2
          generalize ns k = y at d0 R1 R2
          have hl0 : (0 : Int) ≤ (k : Int) := by omega
          have hli : (k : Int) < (fl : Int) := by omega
          by_cases hnm : x = y
          · have R := Lib.hid (R2.out (by simp [hnm]))
            subst hnm
            clear R1 R2
            go_wp2_with fail
            go_quiet (fail)
            go_wp2_with fail
            go_roundw
            case rel => exact ⟨k + 1, by omega, by go_num, R.out, _, rfl⟩
            case measure => simp [intOf]; omega
          · have R := Lib.hid (R1.out (by simp [hnm]))
            have q := bytes_ne hnm
            clear hnm R1 R2
            go_wp2_with fail
            go_quiet (fail)
            go_wp2_with fail
            go_ret
            exact ⟨R.out, below_drewN (below_drewN (Below.refl _ _) _) _⟩
        · obtain rfl : k = fl := by omega
          have R := Lib.hid (show Ending.returned (.bool true) = .returned (.bool (justB k fn k ns)) by rw [justB, HH.out.all]; simp)
          go_wp2_with fail
          go_ret
          exact ⟨R.out, below_drewN (Below.refl _ _) _⟩
  · have R := Lib.hid (show Ending.returned (.bool false) = .returned (.bool (justB fl fn m ns)) by simp [justB, hne])
    have q : ((fl : Int) == (m : Int)) = false := by simp; omega
    have q2 : ((fl : Int) != (m : Int)) = true := by rw [bne_iff_ne]; omega
    clear h h' hne
    go_enter Tryz.func170, Tryz.ntmps170
    go_wp2_with fail
    go_ret
    exact ⟨R.out, Below.refl _ _⟩
end Go.Proofs.YtmhemajcnfcdmaaGreatDoor
namespace Go.Proofs.YtmhemajcnfcdmaaGreatDoor
open Go.RowKit
def ShIs (v : V) : Prop := ∀ w : World, v.In w → Calls Tryz.prog 80 #[v.agg] w fun e w' => e = .returned (.bool v.rsh) ∧ Below w.heap.size w w'
set_option maxHeartbeats 1000000 in
theorem values_any (la : Option Addr) (ll lc : Nat) (L : Nat → V) (hv : ∀ i, i < ll → ShIs (L i)) (w : World) (hlc : ll ≤ lc ∧ lc ≤ maxLen)
    (h : ∀ i, i < ll → (∃ b o, la = some ⟨b, o, none⟩ ∧ At w b (o + i * 8) (L i).cells) ∧ (L i).In w) :
    Calls Tryz.prog 143 #[.slice la ll lc] w fun e w' => e = .returned (.bool (allB ll (fun i => (L i).rsh))) ∧ Below w.heap.size w w' := by
  unfold maxLen at hlc
  have H := Lib.hid h
  have H2 := Lib.hid hv
  clear h hv
  go_enter Tryz.func143, Tryz.ntmps143
  go_wp2_with fail
  go_loopw [3] (fun i wr => ∃ k : Nat, k ≤ ll ∧ i = .int .i64 k ∧ HeldTo k (fun i => (L i).rsh) ∧ Below w.heap.size w wr) (fun i _ => ll - (intOf i).toNat)
  case atStart => exact ⟨0, Nat.zero_le _, rfl, HeldTo.zero, Below.refl _ _⟩
  case round =>
    obtain ⟨k, hk, rfl, hheld, hb⟩ := hrel
    have HB := Lib.hid hb
    have HH := Lib.hid hheld
    clear hb hheld
    by_cases hlt : k < ll
    · obtain ⟨⟨b, o, rfl, hat⟩, hin⟩ := H.out k hlt
      have hx := H2.out k hlt
      have hat := hat.below HB.out
      have hin := hin.below HB.out
      have R1 := Lib.hid (show (L k).rsh = false → Ending.returned (.bool false) = .returned (.bool (allB ll (fun i => (L i).rsh))) from fun h1 => by rw [allB_false hlt h1])
      have R2 := Lib.hid (show (L k).rsh = true → HeldTo (k + 1) (fun i => (L i).rsh) from fun h1 => HH.out.succ h1)
      obtain ⟨v, hv⟩ : ∃ v, L k = v := ⟨_, rfl⟩
      rw [hv] at hat hin hx R1 R2
      clear hv
      have HX := Lib.hid (hx wr hin)
      cases v with
      | leaf => exact hin.elim
      | mk k2 n2 s2 la2 ll2 lc2 L2 fa2 fl2 fc2 fn2 F2 e2 key2 hk2 =>
      obtain ⟨c0, c1, c2, c3, c4, c5, c6, c7⟩ := at8 hat
      generalize (V.mk k2 n2 s2 la2 ll2 lc2 L2 fa2 fl2 fc2 fn2 F2 e2 key2 hk2).rsh = q at HX R1 R2
      clear hx hat hin
      have hl0 : (0 : Int) ≤ (k : Int) := by omega
      have hli : (k : Int) < (ll : Int) := by omega
      go_wp2_with fail
      refine HX.out.mono ?_
      rintro e w1 ⟨rfl, hb1⟩
      have HB1 := Lib.hid (HB.out.trans (hb1.mono HB.out.size))
      clear hb1 c0 c1 c2 c3 c4 c5 c6 c7
      cases q
      · go_wp2_with fail
        go_ret
        exact ⟨R1.out (by simp), HB1.out⟩
      · go_wp2_with fail
        go_roundw
        case rel => exact ⟨k + 1, by omega, by go_num, R2.out (by simp), HB1.out⟩
        case measure => simp [intOf]; omega
    · obtain rfl : ll = k := by omega
      have R := Lib.hid (show Ending.returned (.bool true) = .returned (.bool (allB ll (fun i => (L i).rsh))) by rw [HH.out.all])
      go_wp2_with fail
      go_ret
      exact ⟨R.out, HB.out⟩
theorem drew_low (w : World) : Below w.heap.size w w.drew := (Below.refl _ _).drew
theorem still_skip {P : Program} {ops : Array Oper} {w : World} {Q : Act → Prop} {o : Oper} {rest : List Oper} {a : Act} (h : Region.wanted o (yielded ops a.tmps) = false) (hr : wpStill P ops w Q rest (a.put o.dst undef)) :
    wpStill P ops w Q (o :: rest) a := by
  unfold wpStill
  rw [h]
  exact hr
theorem still_take {P : Program} {ops : Array Oper} {w : World} {Q : Act → Prop} {o : Oper} {rest : List Oper} {a : Act} {v : Value} (h : Region.wanted o (yielded ops a.tmps) = true) (hy : (execOp a.eval o).run P w = .ok (.value v) w)
    (hr : wpStill P ops w Q rest (a.put o.dst v)) : wpStill P ops w Q (o :: rest) a := by
  unfold wpStill
  rw [h]
  simp only [if_true, Oper.still, hy, Oper.stillUpon]
  exact ⟨trivial, hr⟩
attribute [local irreducible] wpStill
set_option maxRecDepth 100000 in
set_option maxHeartbeats 4000000 in
theorem fields_any (fa : Option Addr) (fl fc : Nat) (fn : Nat → ByteArray) (F : Nat → V) (hv : ∀ i, i < fl → ShIs (F i)) (w : World) (hlc : fl ≤ fc ∧ fc ≤ maxLen)
    (h : ∀ i, i < fl → (∃ b o, fa = some ⟨b, o, none⟩ ∧ At w b (o + i * 9) (.string (fn i) :: (F i).cells)) ∧ (fn i).size ≤ maxLen ∧ (F i).In w) :
    Calls Tryz.prog 144 #[.slice fa fl fc] w fun e w' => e = .returned (.bool (rFields fl fn (fun i => (F i).rsh))) ∧ Below w.heap.size w w' := by
  unfold maxLen at hlc
  have H := Lib.hid h
  have H2 := Lib.hid hv
  clear h hv
  go_enter Tryz.func144, Tryz.ntmps144
  go_wp2_with fail
  go_loopw [3] (fun i wr => ∃ k : Nat, k ≤ fl ∧ i = .int .i64 k ∧ HeldTo k (fun i => rName (fn i) && (rUp fn i && (F i).rsh)) ∧ Below w.heap.size w wr) (fun i _ => fl - (intOf i).toNat)
  case atStart => exact ⟨0, Nat.zero_le _, rfl, HeldTo.zero, Below.refl _ _⟩
  case round =>
    obtain ⟨k, hk, rfl, hheld, hb⟩ := hrel
    have HB := Lib.hid hb
    have HH := Lib.hid hheld
    clear hb hheld
    by_cases hlt : k < fl
    · have H0 := H.out k hlt
      obtain ⟨⟨b, o, he, hat⟩, hsz, hin⟩ := H0
      have hx := H2.out k hlt
      have hat := hat.below HB.out
      have hin := hin.below HB.out
      have R1 := Lib.hid (show (rName (fn k) && (rUp fn k && (F k).rsh)) = false → Ending.returned (.bool false) = .returned (.bool (rFields fl fn (fun i => (F i).rsh))) from fun h1 => by rw [rFields, allB_false hlt h1])
      have R2 := Lib.hid (show (rName (fn k) && (rUp fn k && (F k).rsh)) = true → HeldTo (k + 1) (fun i => rName (fn i) && (rUp fn i && (F i).rsh)) from fun h1 => HH.out.succ h1)
      have HUP : Hid (k = 0 → rUp fn k = true) := fun h => by subst h; rfl
      have HPR : Hid (0 < k → ∃ nm, wr.cell? ⟨b, o + (k - 1) * 9, none⟩ = some (.string nm) ∧ Op.bytesLess nm.toList (fn k).toList = rUp fn k) := fun h => by
        obtain ⟨⟨b2, o2, he2, hat2⟩, -, -⟩ := H.out (k - 1) (by omega)
        rw [he] at he2
        simp only [Option.some.injEq, Addr.mk.injEq, and_true] at he2
        obtain ⟨rfl, rfl⟩ := he2
        refine ⟨fn (k - 1), ?_, ?_⟩
        · have := (hat2.below HB.out) 0 (by simp)
          simpa using this
        · obtain ⟨j, rfl⟩ : ∃ j, k = j + 1 := ⟨k - 1, by omega⟩
          rfl
      generalize rUp fn k = up at R1 R2 HUP HPR
      obtain ⟨v, hv⟩ : ∃ v, F k = v := ⟨_, rfl⟩
      rw [hv] at hat hin hx R1 R2
      clear hv
      have HX := Lib.hid (fun W (hb : Below wr.heap.size wr W) => hx W (hin.below hb))
      have HN := Lib.hid (fun W => (name_any (fn k) W hsz).mono (R' := fun e w'' => e = .returned (.bool (rName (fn k))) ∧ w'' = W) (fun _ _ ⟨h1, h2⟩ => ⟨h1, h2.symm⟩))
      cases v with
      | leaf => exact hin.elim
      | mk k2 n2 s2 la2 ll2 lc2 L2 fa2 fl2 fc2 fn2 F2 e2 key2 hk2 =>
      obtain ⟨c0, c1, c2, c3, c4, c5, c6, c7, c8⟩ := at9 hat
      generalize (V.mk k2 n2 s2 la2 ll2 lc2 L2 fa2 fl2 fc2 fn2 F2 e2 key2 hk2).rsh = q at HX R1 R2
      generalize rName (fn k) = nmq at HN R1 R2
      generalize fn k = nm at c0 HN HPR
      clear hx hat hin hsz
      subst he
      have hl0 : (0 : Int) ≤ (k : Int) := by omega
      have hli : (k : Int) < (fl : Int) := by omega
      by_cases hnm : nmq = false
      · subst hnm
        have R := Lib.hid (R1.out rfl)
        clear R1 R2 HPR HUP HX
        go_wp2_with fail
        go_still_tail 31, (by kernel_rfl)
        still_call (HN.out _)
        repeat (first
          | (refine still_skip (by rfl) ?_; simp only [Act.put, List.setIfInBounds_toArray, List.set_cons_zero, List.set_cons_succ])
          | (refine still_take (v := ?_) (by rfl) ?_ ?_; rotate_left; (focus (go_simp; (try with_reducible rfl))); simp only [Act.put, List.setIfInBounds_toArray, List.set_cons_zero, List.set_cons_succ]))
        refine wpStill_nil ?_
        go_wp2_with fail
        go_ret
        exact ⟨R.out, HB.out.drew⟩
      · obtain rfl : nmq = true := by simpa using hnm
        clear hnm
        rcases Nat.eq_zero_or_pos k with rfl | hkp
        · obtain rfl := HUP.out rfl
          clear HPR HUP
          simp only [Nat.zero_mul, Nat.add_zero] at c0 c1 c2 c3 c4 c5 c6 c7 c8
          go_wp2_with fail
          go_still_tail 31, (by kernel_rfl)
          still_call (HN.out _)
          repeat (first
            | (refine still_skip (by rfl) ?_; simp only [Act.put, List.setIfInBounds_toArray, List.set_cons_zero, List.set_cons_succ])
            | (refine still_take (v := ?_) (by rfl) ?_ ?_; rotate_left; (focus (go_simp; (try with_reducible rfl))); simp only [Act.put, List.setIfInBounds_toArray, List.set_cons_zero, List.set_cons_succ]))
          refine wpStill_nil ?_
          go_wp2_with fail
          refine (HX.out _ (drew_low _)).mono ?_
          rintro e w1 ⟨rfl, hb1⟩
          have HB1 := Lib.hid (HB.out.trans (((drew_low wr).trans (show Below wr.heap.size wr.drew w1 from hb1)).mono HB.out.size))
          clear hb1 c0 c1 c2 c3 c4 c5 c6 c7 c8 HX
          cases q
          · go_wp2_with fail
            go_ret
            exact ⟨R1.out (by simp), HB1.out⟩
          · go_wp2_with fail
            go_roundw
            case rel => exact ⟨0 + 1, by omega, by go_num, R2.out (by simp), HB1.out⟩
            case measure => simp [intOf]; omega
        · obtain ⟨nm', p0, hless⟩ := HPR.out hkp
          clear HPR HUP
          obtain ⟨j, rfl⟩ : ∃ j, k = j + 1 := ⟨k - 1, by omega⟩
          rw [Nat.add_sub_cancel] at p0
          have g1 : (0 : Int) < (j : Int) + 1 := by omega
          have g2 : IntKind.i64.wrap (j : Int) = (j : Int) := IntWalk.i64_in _ (by omega)
          have g3 : (0 : Int) ≤ (j : Int) := by omega
          have g4 : (j : Int) < (fl : Int) := by omega
          have g5 : (0 : Int) ≤ (j : Int) + 1 := by omega
          have g6 : (j : Int) + 1 < (fl : Int) := by omega
          cases up
          · have R := Lib.hid (R1.out (by simp))
            clear R1 R2 HX
            go_wp2_with fail
            go_still_tail 31, (by kernel_rfl)
            still_call (HN.out _)
            repeat (first
            | (refine still_skip (by rfl) ?_; simp only [Act.put, List.setIfInBounds_toArray, List.set_cons_zero, List.set_cons_succ])
            | (refine still_take (v := ?_) (by rfl) ?_ ?_; rotate_left; (focus (go_simp; (try with_reducible rfl))); simp only [Act.put, List.setIfInBounds_toArray, List.set_cons_zero, List.set_cons_succ]))
            refine wpStill_nil ?_
            go_wp2_with fail
            go_ret
            exact ⟨R.out, HB.out.drew⟩
          · go_wp2_with fail
            go_still_tail 31, (by kernel_rfl)
            still_call (HN.out _)
            repeat (first
            | (refine still_skip (by rfl) ?_; simp only [Act.put, List.setIfInBounds_toArray, List.set_cons_zero, List.set_cons_succ])
            | (refine still_take (v := ?_) (by rfl) ?_ ?_; rotate_left; (focus (go_simp; (try with_reducible rfl))); simp only [Act.put, List.setIfInBounds_toArray, List.set_cons_zero, List.set_cons_succ]))
            refine wpStill_nil ?_
            go_wp2_with fail
            refine (HX.out _ (drew_low _)).mono ?_
            rintro e w1 ⟨rfl, hb1⟩
            have HB1 := Lib.hid (HB.out.trans (((drew_low wr).trans (show Below wr.heap.size wr.drew w1 from hb1)).mono HB.out.size))
            clear hb1 c0 c1 c2 c3 c4 c5 c6 c7 c8 HX
            cases q
            · go_wp2_with fail
              go_ret
              exact ⟨R1.out (by simp), HB1.out⟩
            · go_wp2_with fail
              go_roundw
              case rel => exact ⟨(j + 1) + 1, by omega, by go_num, R2.out (by simp), HB1.out⟩
              case measure => simp [intOf]; omega
    · obtain rfl : fl = k := by omega
      have R := Lib.hid (show Ending.returned (.bool true) = .returned (.bool (rFields fl fn (fun i => (F i).rsh))) by rw [rFields, HH.out.all])
      go_wp2_with fail
      go_ret
      exact ⟨R.out, HB.out⟩
end Go.Proofs.YtmhemajcnfcdmaaGreatDoor
