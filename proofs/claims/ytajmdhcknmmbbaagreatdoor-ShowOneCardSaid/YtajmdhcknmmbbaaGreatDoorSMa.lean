/-
  Plain: documents as texts: what is told of nodes ('D.tx'), what the reader takes of a text ('rdN'), with its parts: quotes, values, attributes. No program is imported.
  Conditions: none.
  Plain: the way back from what is told: a text in quotes, a number, a value, attributes, nodes are taken as what they were told of. No program is imported.
  Conditions: hosts have names, numbers are in range.
-/
import Derived.Lib.ItoaNum
import Derived.Lib.ParseIntBTie
import Derived.Lib.Strings
import Derived.Lib.SlTrimSet
namespace Go.Proofs.YtajmdhcknmmbbaaGreatDoor.Sh
open Go

/-- A value that an attribute has. -/
inductive PV where
  | num (n : Int)
  | tru (b : Bool)
  | txt (s : List UInt8)
deriving DecidableEq

/-- NODES, one beside the other: none; a text and those behind it; a host, what stands within it, and those behind it. -/
inductive D where
  | nil
  | txt (s : List UInt8) (more : D)
  | host (tag : List UInt8) (as : List (List UInt8 × PV)) (kids more : D)
deriving DecidableEq

/-- One behind the other. -/
def D.app : D → D → D
  | .nil, e => e
  | .txt s m, e => .txt s (m.app e)
  | .host t a k m, e => .host t a k (m.app e)
theorem D.app_nil : ∀ d : D, d.app .nil = d
  | .nil => rfl
  | .txt s m => by rw [D.app, D.app_nil m]
  | .host t a k m => by rw [D.app, D.app_nil m]
theorem D.app_assoc : ∀ a b c : D, (a.app b).app c = a.app (b.app c)
  | .nil, _, _ => rfl
  | .txt s m, b, c => by simp only [D.app]; rw [D.app_assoc m]
  | .host t a k m, b, c => by simp only [D.app]; rw [D.app_assoc m]

/-! ### What is told -/
def esc (b : UInt8) : List UInt8 := if b = 34 then [92, 34] else if b = 92 then [92, 92] else if b = 10 then [92, 110] else [b]
def quoteT (s : List UInt8) : List UInt8 := 34 :: (s.flatMap esc ++ [34])
def PV.tx : PV → List UInt8
  | .num n => Lib.itoa n
  | .tru true => [121, 101, 115]
  | .tru false => [110, 111]
  | .txt s => quoteT s
/-- What keeps a thing from the one ahead of it. -/
def sep (first : Bool) : List UInt8 := if first then [] else [32]
def attrsT : Bool → List (List UInt8 × PV) → List UInt8
  | _, [] => []
  | b, a :: l => sep b ++ (quoteT a.1 ++ (32 :: (a.2.tx ++ attrsT false l)))
def D.tx : Bool → D → List UInt8
  | _, .nil => []
  | b, .txt s m => sep b ++ (quoteT s ++ m.tx false)
  | b, .host t a k m => sep b ++ ((if t = [] then quoteT [] else 40 :: (quoteT t ++ (32 :: 123 :: (attrsT true a ++ (125 :: 32 :: 91 :: (k.tx true ++ [93, 41])))))) ++ m.tx false)

/-! ### What is taken -/
/-- The text, if it begins so, without its beginning. -/
def takeR (p r : List UInt8) : Option (List UInt8) := if Lib.hasPrefix r p then some (r.drop p.length) else none
/-- One byte within quotes. -/
def oneR (r : List UInt8) : Option (UInt8 × List UInt8) :=
  if Lib.hasPrefix r [92, 34] then some (34, r.drop 2) else if Lib.hasPrefix r [92, 92] then some (92, r.drop 2) else if Lib.hasPrefix r [92, 110] then some (10, r.drop 2) else
  match r with
  | [] => none
  | b :: t => some (b, t)
/-- What stands up to the quote that closes. -/
def bodyN : Nat → List UInt8 → Option (List UInt8 × List UInt8)
  | 0, _ => none
  | n + 1, r => if Lib.hasPrefix r [34] then some ([], r.drop 1) else (oneR r).bind fun x => (bodyN n x.2).bind fun y => some (x.1 :: y.1, y.2)
def bodyR (r : List UInt8) : Option (List UInt8 × List UInt8) := bodyN (r.length + 1) r
def quotedR (r : List UInt8) : Option (List UInt8 × List UInt8) := (takeR [34] r).bind bodyR
def numC : List UInt8 := [45, 48, 49, 50, 51, 52, 53, 54, 55, 56, 57]
def numR (r : List UInt8) : Option (Int × List UInt8) :=
  match Lib.parseIntB 64 (r.take (r.length - (Lib.trimLeftS r numC).length)) with
  | .ok v => some (v, Lib.trimLeftS r numC)
  | _ => none
def valueR (r : List UInt8) : Option (PV × List UInt8) :=
  if Lib.hasPrefix r [34] then (quotedR r).map fun x => (.txt x.1, x.2)
  else if Lib.hasPrefix r [121, 101, 115] then some (.tru true, r.drop 3)
  else if Lib.hasPrefix r [110, 111] then some (.tru false, r.drop 2)
  else (numR r).map fun x => (.num x.1, x.2)
def attrR (r : List UInt8) : Option ((List UInt8 × PV) × List UInt8) :=
  (quotedR (Lib.trimPrefix r [32])).bind fun x => (takeR [32] x.2).bind fun r2 => (valueR r2).bind fun y => some ((x.1, y.1), y.2)
def attrsN : Nat → List UInt8 → Option (List (List UInt8 × PV) × List UInt8)
  | 0, _ => none
  | n + 1, r => if Lib.hasPrefix r [125] then some ([], r) else (attrR r).bind fun x => (attrsN n x.2).bind fun y => some (x.1 :: y.1, y.2)
def attrsR (r : List UInt8) : Option (List (List UInt8 × PV) × List UInt8) := attrsN (r.length + 1) r
/-- Here nodes end. -/
def stop (r : List UInt8) : Bool := r.isEmpty || Lib.hasPrefix r [93]
/-- A node; what stands within it is taken by f. -/
def nodeF (f : List UInt8 → Option (D × List UInt8)) (r : List UInt8) : Option (D × List UInt8) :=
  if Lib.hasPrefix r [40] then (quotedR (r.drop 1)).bind fun x => (takeR [32, 123] x.2).bind fun r3 => (attrsR r3).bind fun y => (takeR [125, 32, 91] y.2).bind fun r5 => (f r5).bind fun z => (takeR [93, 41] z.2).bind fun r7 => some (.host x.1 y.1 z.1 .nil, r7)
  else (quotedR r).bind fun x => some (.txt x.1 .nil, x.2)
def rdN : Nat → List UInt8 → Option (D × List UInt8)
  | 0, _ => none
  | n + 1, r => if stop r then some (.nil, r) else (nodeF (rdN n) (Lib.trimPrefix r [32])).bind fun x => (rdN n x.2).bind fun y => some (x.1.app y.1, y.2)
def rdR (r : List UInt8) : Option (D × List UInt8) := rdN (r.length + 1) r
def nodeR (r : List UInt8) : Option (D × List UInt8) := nodeF rdR r

/-! ### What is left is shorter; how much fuel there is makes no difference -/
theorem trim_le (r p : List UInt8) : (Lib.trimPrefix r p).length ≤ r.length := by
  unfold Lib.trimPrefix
  split
  · rw [List.length_drop]; omega
  · exact Nat.le_refl _
theorem takeR_len {p r r' : List UInt8} (h : takeR p r = some r') : r'.length + p.length ≤ r.length := by
  unfold takeR at h
  split at h
  · rename_i hp
    cases h
    have := List.IsPrefix.length_le (List.isPrefixOf_iff_prefix.1 hp)
    rw [List.length_drop]; omega
  · cases h
theorem oneR_len {r : List UInt8} {x : UInt8 × List UInt8} (h : oneR r = some x) : x.2.length < r.length := by
  unfold oneR at h
  have hl : ∀ p : List UInt8, p.length = 2 → Lib.hasPrefix r p = true → 2 ≤ r.length := fun p h2 hp => by
    have := List.IsPrefix.length_le (List.isPrefixOf_iff_prefix.1 hp); omega
  split at h
  · rename_i hp; cases h; have := hl _ rfl hp; simp only [List.length_drop]; omega
  · split at h
    · rename_i hp; cases h; have := hl _ rfl hp; simp only [List.length_drop]; omega
    · split at h
      · rename_i hp; cases h; have := hl _ rfl hp; simp only [List.length_drop]; omega
      · cases r with
        | nil => cases h
        | cons b t => cases h; simp
theorem pre1_len {r : List UInt8} {c : UInt8} (h : Lib.hasPrefix r [c] = true) : 1 ≤ r.length := by
  have := List.IsPrefix.length_le (List.isPrefixOf_iff_prefix.1 h)
  simpa using this
theorem bodyN_len : ∀ (n : Nat) (r : List UInt8) (y : List UInt8 × List UInt8), bodyN n r = some y → y.2.length < r.length
  | 0, _, _, h => by cases h
  | n + 1, r, y, h => by
    rw [bodyN] at h
    split at h
    · rename_i hp; cases h; have := pre1_len hp; simp only [List.length_drop]; omega
    · obtain ⟨x, hx, h⟩ := Option.bind_eq_some_iff.1 h
      obtain ⟨z, hz, h⟩ := Option.bind_eq_some_iff.1 h
      cases h
      have h1 := oneR_len hx
      have h2 := bodyN_len n x.2 z hz
      simp only
      omega
theorem bodyN_fuel : ∀ (n m : Nat) (r : List UInt8), r.length < n → r.length < m → bodyN n r = bodyN m r
  | 0, _, _, h, _ => absurd h (Nat.not_lt_zero _)
  | _, 0, _, _, h => absurd h (Nat.not_lt_zero _)
  | n + 1, m + 1, r, h1, h2 => by
    rw [bodyN, bodyN]
    split
    · rfl
    · cases hx : oneR r with
      | none => rfl
      | some x =>
        have := oneR_len hx
        simp only [Option.bind_some]
        rw [bodyN_fuel n m x.2 (by omega) (by omega)]
/-- A round of the quotes. -/
theorem bodyR_eq (r : List UInt8) : bodyR r = if Lib.hasPrefix r [34] then some ([], r.drop 1) else (oneR r).bind fun x => (bodyR x.2).bind fun y => some (x.1 :: y.1, y.2) := by
  rw [bodyR, bodyN]
  split
  · rfl
  · cases hx : oneR r with
    | none => rfl
    | some x =>
      have := oneR_len hx
      simp only [Option.bind_some]
      rw [bodyN_fuel r.length (x.2.length + 1) x.2 (by omega) (by omega)]
      rfl
theorem bodyR_len {r : List UInt8} {y : List UInt8 × List UInt8} (h : bodyR r = some y) : y.2.length < r.length := bodyN_len _ _ _ h
theorem quotedR_len {r : List UInt8} {y : List UInt8 × List UInt8} (h : quotedR r = some y) : y.2.length < r.length := by
  obtain ⟨r', h1, h2⟩ := Option.bind_eq_some_iff.1 h
  have a := takeR_len h1
  have b := bodyR_len h2
  omega
theorem trimL_le (r cs : List UInt8) : (Lib.trimLeftS r cs).length ≤ r.length := (List.dropWhile_suffix _).length_le
theorem numR_len {r : List UInt8} {y : Int × List UInt8} (h : numR r = some y) : y.2.length ≤ r.length := by
  unfold numR at h
  split at h
  · cases h; exact trimL_le _ _
  · cases h
theorem valueR_len {r : List UInt8} {y : PV × List UInt8} (h : valueR r = some y) : y.2.length ≤ r.length := by
  unfold valueR at h
  split at h
  · obtain ⟨x, h1, h⟩ := Option.map_eq_some_iff.1 h; subst h
    exact Nat.le_of_lt (quotedR_len h1)
  · split at h
    · cases h; simp only [List.length_drop]; omega
    · split at h
      · cases h; simp only [List.length_drop]; omega
      · obtain ⟨x, h1, h⟩ := Option.map_eq_some_iff.1 h; subst h
        exact numR_len h1
theorem attrR_len {r : List UInt8} {y : (List UInt8 × PV) × List UInt8} (h : attrR r = some y) : y.2.length < r.length := by
  obtain ⟨x, h1, h⟩ := Option.bind_eq_some_iff.1 h
  obtain ⟨r2, h2, h⟩ := Option.bind_eq_some_iff.1 h
  obtain ⟨v, h3, h⟩ := Option.bind_eq_some_iff.1 h
  cases h
  have a := quotedR_len h1
  have b := takeR_len h2
  have c := valueR_len h3
  have d := trim_le r [32]
  simp only [List.length_cons, List.length_nil] at *
  omega
theorem attrsN_len : ∀ (n : Nat) (r : List UInt8) (y : List (List UInt8 × PV) × List UInt8), attrsN n r = some y → y.2.length ≤ r.length
  | 0, _, _, h => by cases h
  | n + 1, r, y, h => by
    rw [attrsN] at h
    split at h
    · cases h; exact Nat.le_refl _
    · obtain ⟨x, hx, h⟩ := Option.bind_eq_some_iff.1 h
      obtain ⟨z, hz, h⟩ := Option.bind_eq_some_iff.1 h
      cases h
      have h1 := attrR_len hx
      have h2 := attrsN_len n x.2 z hz
      simp only
      omega
theorem attrsN_fuel : ∀ (n m : Nat) (r : List UInt8), r.length < n → r.length < m → attrsN n r = attrsN m r
  | 0, _, _, h, _ => absurd h (Nat.not_lt_zero _)
  | _, 0, _, _, h => absurd h (Nat.not_lt_zero _)
  | n + 1, m + 1, r, h1, h2 => by
    rw [attrsN, attrsN]
    split
    · rfl
    · cases hx : attrR r with
      | none => rfl
      | some x =>
        have := attrR_len hx
        simp only [Option.bind_some]
        rw [attrsN_fuel n m x.2 (by omega) (by omega)]
/-- A round of the attributes. -/
theorem attrsR_eq (r : List UInt8) : attrsR r = if Lib.hasPrefix r [125] then some ([], r) else (attrR r).bind fun x => (attrsR x.2).bind fun y => some (x.1 :: y.1, y.2) := by
  rw [attrsR, attrsN]
  split
  · rfl
  · cases hx : attrR r with
    | none => rfl
    | some x =>
      have := attrR_len hx
      simp only [Option.bind_some]
      rw [attrsN_fuel r.length (x.2.length + 1) x.2 (by omega) (by omega)]
      rfl
theorem attrsR_len {r : List UInt8} {y : List (List UInt8 × PV) × List UInt8} (h : attrsR r = some y) : y.2.length ≤ r.length := attrsN_len _ _ _ h
theorem pre_len {r p : List UInt8} (h : Lib.hasPrefix r p = true) : p.length ≤ r.length := List.IsPrefix.length_le (List.isPrefixOf_iff_prefix.1 h)
theorem nodeF_len {f : List UInt8 → Option (D × List UInt8)} {r : List UInt8} {y : D × List UInt8} (hf : ∀ r' z, r'.length < r.length → f r' = some z → z.2.length ≤ r'.length) (h : nodeF f r = some y) : y.2.length < r.length := by
  unfold nodeF at h
  split at h
  · rename_i hp
    have h0 := pre1_len hp
    obtain ⟨x, h1, h⟩ := Option.bind_eq_some_iff.1 h
    obtain ⟨r3, h2, h⟩ := Option.bind_eq_some_iff.1 h
    obtain ⟨a, h3, h⟩ := Option.bind_eq_some_iff.1 h
    obtain ⟨r5, h4, h⟩ := Option.bind_eq_some_iff.1 h
    obtain ⟨z, h5, h⟩ := Option.bind_eq_some_iff.1 h
    obtain ⟨r7, h6, h⟩ := Option.bind_eq_some_iff.1 h
    cases h
    have a1 := quotedR_len h1
    have a2 := takeR_len h2
    have a3 := attrsR_len h3
    have a4 := takeR_len h4
    rw [List.length_drop] at a1
    have a5 := hf _ _ (by omega) h5
    have a6 := takeR_len h6
    simp only
    omega
  · obtain ⟨x, h1, h⟩ := Option.bind_eq_some_iff.1 h
    cases h
    exact quotedR_len h1
theorem rdN_len : ∀ (n : Nat) (r : List UInt8) (y : D × List UInt8), rdN n r = some y → y.2.length ≤ r.length
  | 0, _, _, h => by cases h
  | n + 1, r, y, h => by
    rw [rdN] at h
    split at h
    · cases h; exact Nat.le_refl _
    · obtain ⟨x, hx, h⟩ := Option.bind_eq_some_iff.1 h
      obtain ⟨z, hz, h⟩ := Option.bind_eq_some_iff.1 h
      cases h
      have h1 := nodeF_len (fun r' z _ hz => rdN_len n r' z hz) hx
      have h2 := rdN_len n x.2 z hz
      have h3 := trim_le r [32]
      simp only
      omega
theorem nodeF_same {f g : List UInt8 → Option (D × List UInt8)} {r : List UInt8} (h : ∀ r', r'.length < r.length → f r' = g r') : nodeF f r = nodeF g r := by
  unfold nodeF
  split
  · rename_i hp
    have h0 := pre1_len hp
    cases h1 : quotedR (r.drop 1) with
    | none => rfl
    | some x =>
      simp only [Option.bind_some]
      cases h2 : takeR [32, 123] x.2 with
      | none => rfl
      | some r3 =>
        simp only [Option.bind_some]
        cases h3 : attrsR r3 with
        | none => rfl
        | some y =>
          simp only [Option.bind_some]
          cases h4 : takeR [125, 32, 91] y.2 with
          | none => rfl
          | some r5 =>
            have a1 := quotedR_len h1
            have a2 := takeR_len h2
            have a3 := attrsR_len h3
            have a4 := takeR_len h4
            rw [List.length_drop] at a1
            simp only [Option.bind_some]
            rw [h r5 (by omega)]
  · rfl
theorem rdN_fuel : ∀ (n m : Nat) (r : List UInt8), r.length < n → r.length < m → rdN n r = rdN m r
  | 0, _, _, h, _ => absurd h (Nat.not_lt_zero _)
  | _, 0, _, _, h => absurd h (Nat.not_lt_zero _)
  | n + 1, m + 1, r, h1, h2 => by
    have h3 := trim_le r [32]
    rw [rdN, rdN]
    split
    · rfl
    · rw [nodeF_same (g := rdN m) (fun r' hr => rdN_fuel n m r' (by omega) (by omega))]
      cases hx : nodeF (rdN m) (Lib.trimPrefix r [32]) with
      | none => rfl
      | some x =>
        have := nodeF_len (fun r' z _ hz => rdN_len m r' z hz) hx
        simp only [Option.bind_some]
        rw [rdN_fuel n m x.2 (by omega) (by omega)]
theorem rdR_len {r : List UInt8} {y : D × List UInt8} (h : rdR r = some y) : y.2.length ≤ r.length := rdN_len _ _ _ h
theorem nodeR_len {r : List UInt8} {y : D × List UInt8} (h : nodeR r = some y) : y.2.length < r.length := nodeF_len (fun _ _ _ hz => rdR_len hz) h
/-- A round of the nodes. -/
theorem rdR_eq (r : List UInt8) : rdR r = if stop r then some (.nil, r) else (nodeR (Lib.trimPrefix r [32])).bind fun x => (rdR x.2).bind fun y => some (x.1.app y.1, y.2) := by
  have h3 := trim_le r [32]
  rw [rdR, rdN]
  split
  · rfl
  · rename_i hs
    have h0 : r.length ≠ 0 := fun h => hs (by rw [List.length_eq_zero_iff.1 h]; rfl)
    have hn : nodeF (rdN r.length) (Lib.trimPrefix r [32]) = nodeR (Lib.trimPrefix r [32]) := nodeF_same fun r' hr => rdN_fuel _ _ _ (by omega) (by omega)
    rw [hn]
    cases hx : nodeR (Lib.trimPrefix r [32]) with
    | none => rfl
    | some x =>
      have := nodeR_len hx
      simp only [Option.bind_some]
      rw [rdN_fuel r.length (x.2.length + 1) x.2 (by omega) (by omega)]
      rfl
end Go.Proofs.YtajmdhcknmmbbaaGreatDoor.Sh
namespace Go.Proofs.YtajmdhcknmmbbaaGreatDoor.Sh
open Go

def isDig (c : UInt8) : Bool := 48 ≤ c.toNat && c.toNat ≤ 57
theorem pu_snoc (M : Nat) : ∀ (l : List UInt8) (acc a : Nat) (c : UInt8), Lib.parseUintM M acc l = .ok a → Lib.parseUintM M acc (l ++ [c]) = Lib.parseUintM M a [c]
  | [], acc, a, c, h => by
    simp only [Lib.parseUintM] at h
    injection h with h
    subst h; rfl
  | d :: t, acc, a, c, h => by
    simp only [List.cons_append, Lib.parseUintM] at h ⊢
    split at h
    · rename_i hd
      rw [if_pos hd]
      split at h
      · cases h
      rename_i h1
      rw [if_neg h1]
      split at h
      · cases h
      rename_i h2
      rw [if_neg h2]
      exact pu_snoc M t _ a c h
    · cases h
theorem pu_dec (u : Nat) (hu : u ≤ 18446744073709551615) : Lib.parseUintM 18446744073709551615 0 (Lib.decDigits u) = .ok u := by
  induction u using Nat.strongRecOn with
  | _ u ih =>
    by_cases h : u < 10
    · rw [Lib.decDigits, dif_pos h]
      have e : (UInt8.ofNat (48 + u)).toNat = 48 + u := by simp; omega
      simp only [Lib.parseUintM, e]
      rw [if_pos (by omega), if_neg (by omega), if_neg (by omega)]
      simp
    · rw [Lib.decDigits, dif_neg h, pu_snoc _ _ _ _ _ (ih (u / 10) (by omega) (by omega))]
      have e : (UInt8.ofNat (48 + u % 10)).toNat = 48 + u % 10 := by simp; omega
      simp only [Lib.parseUintM, e]
      rw [if_pos (by omega), if_neg (by omega), if_neg (by omega)]
      congr 1; omega
theorem dec_ne (u : Nat) : Lib.decDigits u ≠ [] := by
  intro h
  have := Lib.decDigits_length u
  rw [h] at this
  have := Lib.nDigits_pos u
  simp at *; omega
theorem isDig_dec : ∀ (u : Nat) (c : UInt8), c ∈ Lib.decDigits u → isDig c = true := by
  intro u
  induction u using Nat.strongRecOn with
  | _ u ih =>
    intro c hc
    by_cases h : u < 10
    · rw [Lib.decDigits, dif_pos h, List.mem_singleton] at hc
      have e : (UInt8.ofNat (48 + u)).toNat = 48 + u := by simp; omega
      simp [isDig, hc]; omega
    · rw [Lib.decDigits, dif_neg h, List.mem_append, List.mem_singleton] at hc
      rcases hc with hc | hc
      · exact ih _ (by omega) c hc
      · simp [isDig, hc]; omega
theorem parse_itoa (v : Int) (h1 : -9223372036854775808 ≤ v) (h2 : v < 9223372036854775808) : Lib.parseIntB 64 (Lib.itoa v) = .ok v := by
  by_cases hv : v < 0
  · have hu := pu_dec v.natAbs (by omega)
    have e : Lib.itoa v = 45 :: Lib.decDigits v.natAbs := by simp [Lib.itoa, hv]
    rw [e]
    have e2 : (45 : UInt8).toNat = 45 := rfl
    have e3 : Lib.parseUintB 64 (Lib.decDigits v.natAbs) = .ok v.natAbs := by
      rw [Lib.parseUintB, if_neg (dec_ne _)]; exact hu
    simp only [Lib.parseIntB, e2, or_true, if_true, e3, not_true, false_and, if_false, true_and]
    rw [if_neg (by omega)]
    congr 1; omega
  · have hu := pu_dec v.toNat (by omega)
    have e : Lib.itoa v = Lib.decDigits v.toNat := by simp [Lib.itoa, hv]
    rw [e]
    have hne := dec_ne v.toNat
    have hd := isDig_dec v.toNat
    generalize Lib.decDigits v.toNat = l at *
    cases l with
    | nil => exact absurd rfl hne
    | cons c t =>
      have hc : 48 ≤ c.toNat := by have := hd c (by simp); simp [isDig] at this; omega
      have e3 : Lib.parseUintB 64 (c :: t) = .ok v.toNat := by
        rw [Lib.parseUintB, if_neg hne]; exact hu
      have n1 : ¬ c.toNat = 43 := by omega
      have n2 : ¬ c.toNat = 45 := by omega
      simp only [Lib.parseIntB, n1, n2, or_self, if_false, e3, not_false_eq_true, true_and, false_and]
      rw [if_neg (by omega)]
      congr 1; omega
theorem pre_cons (a b : UInt8) (t p : List UInt8) : Lib.hasPrefix (a :: t) (b :: p) = (b == a && Lib.hasPrefix t p) := rfl
theorem pre_nil (t : List UInt8) : Lib.hasPrefix t [] = true := by cases t <;> rfl
theorem pre_app (p t : List UInt8) : Lib.hasPrefix (p ++ t) p = true := List.isPrefixOf_iff_prefix.2 (List.prefix_append p t)
theorem takeR_app (p t : List UInt8) : takeR p (p ++ t) = some t := by
  rw [takeR, if_pos (pre_app p t), List.drop_left]
theorem trim_pre (p t : List UInt8) : Lib.trimPrefix (p ++ t) p = t := by
  rw [Lib.trimPrefix, if_pos (pre_app p t), List.drop_left]
theorem trim_not (p t : List UInt8) (h : Lib.hasPrefix t p = false) : Lib.trimPrefix t p = t := by
  rw [Lib.trimPrefix, if_neg (by rw [h]; exact Bool.false_ne_true)]
theorem oneR_esc (b : UInt8) (t : List UInt8) : Lib.hasPrefix (esc b ++ t) [34] = false ∧ oneR (esc b ++ t) = some (b, t) := by
  unfold esc
  by_cases h1 : b = 34
  · subst h1; exact ⟨rfl, rfl⟩
  · rw [if_neg h1]
    by_cases h2 : b = 92
    · subst h2; exact ⟨rfl, rfl⟩
    · rw [if_neg h2]
      by_cases h3 : b = 10
      · subst h3; exact ⟨rfl, rfl⟩
      · rw [if_neg h3]
        have e1 : ((34 : UInt8) == b) = false := beq_eq_false_iff_ne.2 (fun h => h1 h.symm)
        have e2 : ((92 : UInt8) == b) = false := beq_eq_false_iff_ne.2 (fun h => h2 h.symm)
        refine ⟨?_, ?_⟩
        · show Lib.hasPrefix (b :: t) [34] = false
          rw [pre_cons, e1]; rfl
        · show oneR (b :: t) = _
          unfold oneR
          rw [if_neg (by rw [pre_cons, e2]; exact Bool.false_ne_true), if_neg (by rw [pre_cons, e2]; exact Bool.false_ne_true), if_neg (by rw [pre_cons, e2]; exact Bool.false_ne_true)]
theorem bodyR_back : ∀ (s t : List UInt8), bodyR (s.flatMap esc ++ (34 :: t)) = some (s, t)
  | [], t => by
    rw [bodyR_eq]
    rfl
  | b :: s, t => by
    obtain ⟨h1, h2⟩ := oneR_esc b (s.flatMap esc ++ (34 :: t))
    rw [List.flatMap_cons, List.append_assoc, bodyR_eq, if_neg (by rw [h1]; exact Bool.false_ne_true), h2]
    simp only [Option.bind_some]
    rw [bodyR_back s t]
    rfl
theorem quoteT_app (s t : List UInt8) : quoteT s ++ t = 34 :: (s.flatMap esc ++ (34 :: t)) := by simp [quoteT]
theorem quotedR_back (s t : List UInt8) : quotedR (quoteT s ++ t) = some (s, t) := by
  rw [quoteT_app, quotedR, show (34 : UInt8) :: (s.flatMap esc ++ (34 :: t)) = [34] ++ (s.flatMap esc ++ (34 :: t)) from rfl, takeR_app]
  exact bodyR_back s t
theorem numC_dig {c : UInt8} (h : isDig c = true) : numC.contains c = true := by
  have : 48 ≤ c.toNat ∧ c.toNat ≤ 57 := by simpa [isDig] using h
  have e : c = UInt8.ofNat c.toNat := (UInt8.ofNat_toNat).symm
  generalize c.toNat = n at *
  subst e
  rcases (by omega : n = 48 ∨ n = 49 ∨ n = 50 ∨ n = 51 ∨ n = 52 ∨ n = 53 ∨ n = 54 ∨ n = 55 ∨ n = 56 ∨ n = 57) with rfl | rfl | rfl | rfl | rfl | rfl | rfl | rfl | rfl | rfl <;> rfl
theorem itoa_numC (v : Int) : ∀ c ∈ Lib.itoa v, numC.contains c = true := by
  intro c hc
  unfold Lib.itoa at hc
  split at hc
  · rcases List.mem_cons.1 hc with rfl | hc
    · rfl
    · exact numC_dig (isDig_dec _ c hc)
  · exact numC_dig (isDig_dec _ c hc)
theorem itoa_head (v : Int) : ∃ c t, Lib.itoa v = c :: t ∧ numC.contains c = true := by
  have h := itoa_numC v
  have hn : Lib.itoa v ≠ [] := by
    unfold Lib.itoa
    split
    · exact List.cons_ne_nil _ _
    · exact dec_ne _
  cases hl : Lib.itoa v with
  | nil => exact absurd hl hn
  | cons c t => exact ⟨c, t, rfl, h c (by rw [hl]; exact List.mem_cons_self ..)⟩
theorem drop_all {p : UInt8 → Bool} : ∀ (l t : List UInt8), (∀ c ∈ l, p c = true) → (l ++ t).dropWhile p = t.dropWhile p
  | [], _, _ => rfl
  | a :: l, t, h => by
    rw [List.cons_append, List.dropWhile_cons_of_pos (h a (List.mem_cons_self ..))]
    exact drop_all l t fun c hc => h c (List.mem_cons_of_mem _ hc)
/-- What can stand behind a value. -/
def aft (t : List UInt8) : Bool := Lib.hasPrefix t [32] || Lib.hasPrefix t [125]
theorem aft_cons {t : List UInt8} (h : aft t = true) : ∃ c u, t = c :: u ∧ (c = 32 ∨ c = 125) := by
  cases t with
  | nil => exact absurd h (by decide)
  | cons c u =>
    refine ⟨c, u, rfl, ?_⟩
    simp only [aft, pre_cons, pre_nil, Bool.and_true, Bool.or_eq_true, beq_iff_eq] at h
    rcases h with h | h
    · exact .inl h.symm
    · exact .inr h.symm
theorem numR_back (v : Int) (t : List UInt8) (h1 : -9223372036854775808 ≤ v) (h2 : v < 9223372036854775808) (ht : aft t = true) : numR (Lib.itoa v ++ t) = some (v, t) := by
  have e : Lib.trimLeftS (Lib.itoa v ++ t) numC = t := by
    rw [Lib.trimLeftS, drop_all _ _ (itoa_numC v)]
    obtain ⟨c, u, rfl, hc⟩ := aft_cons ht
    rw [List.dropWhile_cons_of_neg]
    rcases hc with rfl | rfl <;> exact (by decide)
  rw [numR, e, List.length_append, Nat.add_sub_cancel, List.take_left, parse_itoa v h1 h2]
theorem pre_ne {c d : UInt8} {t p : List UInt8} (h : c ≠ d) : Lib.hasPrefix (c :: t) (d :: p) = false := by
  rw [pre_cons, beq_eq_false_iff_ne.2 (fun e => h e.symm)]; rfl
def PV.fine : PV → Prop
  | .num n => -9223372036854775808 ≤ n ∧ n < 9223372036854775808
  | _ => True
theorem valueR_back (v : PV) (t : List UInt8) (hv : v.fine) (ht : aft t = true) : valueR (v.tx ++ t) = some (v, t) := by
  cases v with
  | num n =>
    obtain ⟨c, u, hc, hd⟩ := itoa_head n
    have hne : ∀ d : UInt8, numC.contains d = false → c ≠ d := fun d h e => by subst e; rw [hd] at h; cases h
    have hp : ∀ (d : UInt8) (p : List UInt8), numC.contains d = false → ¬ Lib.hasPrefix (Lib.itoa n ++ t) (d :: p) = true := fun d p h => by
      rw [hc, List.cons_append, pre_ne (hne d h)]; exact Bool.false_ne_true
    show valueR (Lib.itoa n ++ t) = _
    rw [valueR, if_neg (hp _ _ rfl), if_neg (hp _ _ rfl), if_neg (hp _ _ rfl), numR_back n t hv.1 hv.2 ht]
    rfl
  | tru b => cases b <;> rfl
  | txt s =>
    show valueR (quoteT s ++ t) = _
    rw [valueR, if_pos (by rw [quoteT_app, pre_cons, pre_nil]; rfl), quotedR_back]
    rfl
theorem aft_attrs (l : List (List UInt8 × PV)) (t : List UInt8) : aft (attrsT false l ++ (125 :: t)) = true := by
  cases l with
  | nil => rfl
  | cons a l => rfl
theorem attrR_back (b : Bool) (a : List UInt8 × PV) (t : List UInt8) (ha : a.2.fine) (ht : aft t = true) : attrR (sep b ++ (quoteT a.1 ++ (32 :: (a.2.tx ++ t)))) = some (a, t) := by
  have e : Lib.trimPrefix (sep b ++ (quoteT a.1 ++ (32 :: (a.2.tx ++ t)))) [32] = quoteT a.1 ++ (32 :: (a.2.tx ++ t)) := by
    cases b with
    | true =>
      show Lib.trimPrefix (quoteT a.1 ++ _) [32] = _
      exact trim_not _ _ (by rw [quoteT_app]; rfl)
    | false => exact trim_pre [32] _
  rw [attrR, e, quotedR_back]
  simp only [Option.bind_some]
  rw [show (32 : UInt8) :: (a.2.tx ++ t) = [32] ++ (a.2.tx ++ t) from rfl, takeR_app]
  simp only [Option.bind_some]
  rw [valueR_back a.2 t ha ht]
  rfl
theorem attrsR_back : ∀ (l : List (List UInt8 × PV)) (b : Bool) (t : List UInt8), (∀ a ∈ l, a.2.fine) → attrsR (attrsT b l ++ (125 :: t)) = some (l, 125 :: t)
  | [], b, t, _ => by rw [attrsR_eq]; rfl
  | a :: l, b, t, h => by
    have e : attrsT b (a :: l) ++ (125 :: t) = sep b ++ (quoteT a.1 ++ (32 :: (a.2.tx ++ (attrsT false l ++ (125 :: t))))) := by simp [attrsT]
    rw [e, attrsR_eq, attrR_back b a _ (h a (List.mem_cons_self ..)) (aft_attrs l t)]
    have hb : Lib.hasPrefix (sep b ++ (quoteT a.1 ++ (32 :: (a.2.tx ++ (attrsT false l ++ (125 :: t)))))) [125] = false := by cases b <;> (simp only [sep, if_true, Bool.false_eq_true, if_false, List.nil_append, List.cons_append, quoteT]; rfl)
    rw [if_neg (by rw [hb]; exact Bool.false_ne_true)]
    simp only [Option.bind_some]
    rw [attrsR_back l false t fun x hx => h x (List.mem_cons_of_mem _ hx)]
    rfl
/-- Hosts have names, numbers are in range. -/
def D.fine : D → Prop
  | .nil => True
  | .txt _ m => m.fine
  | .host t a k m => t ≠ [] ∧ (∀ x ∈ a, x.2.fine) ∧ k.fine ∧ m.fine
theorem nodeR_def (r : List UInt8) : nodeR r = nodeF rdR r := rfl
theorem rd_sep (b : Bool) (x : D) (u t t2 : List UInt8) (m : D) (c : UInt8) (q : List UInt8) (hu : u = c :: q) (hc : c = 34 ∨ c = 40) (h1 : nodeR u = some (x, t)) (h2 : rdR t = some (m, t2)) : rdR (sep b ++ u) = some (x.app m, t2) := by
  subst hu
  have e : Lib.trimPrefix (sep b ++ (c :: q)) [32] = c :: q := by
    cases b with
    | true => exact trim_not _ _ (pre_ne (by rcases hc with rfl | rfl <;> decide))
    | false => exact trim_pre [32] _
  have hs : stop (sep b ++ (c :: q)) = false := by
    cases b with
    | true =>
      show (false || Lib.hasPrefix (c :: q) [93]) = false
      rw [pre_ne (by rcases hc with rfl | rfl <;> decide)]; rfl
    | false => rfl
  rw [rdR_eq, e, if_neg (by rw [hs]; exact Bool.false_ne_true), h1]
  simp only [Option.bind_some]
  rw [h2]
  rfl
/-- THE WAY BACK. -/
theorem rd_back : ∀ (d : D) (b : Bool) (t : List UInt8), d.fine → stop t = true → rdR (d.tx b ++ t) = some (d, t)
  | .nil, b, t, _, ht => by
    show rdR ([] ++ t) = _
    rw [List.nil_append, rdR_eq, if_pos ht]
  | .txt s m, b, t, h, ht => by
    have h2 := rd_back m false t h ht
    have e : (D.txt s m).tx b ++ t = sep b ++ (quoteT s ++ (m.tx false ++ t)) := by simp [D.tx]
    rw [e]
    refine rd_sep b (.txt s .nil) _ (m.tx false ++ t) t m 34 _ (quoteT_app _ _) (.inl rfl) ?_ h2
    rw [nodeR_def, nodeF, if_neg (by rw [quoteT_app]; exact (by decide : ¬ false = true)), quotedR_back]
    rfl
  | .host tag a k m, b, t, h, ht => by
    obtain ⟨h0, ha, hk, hm⟩ := h
    have h2 := rd_back m false t hm ht
    have h3 := rd_back k true ([93, 41] ++ (m.tx false ++ t)) hk rfl
    have e : (D.host tag a k m).tx b ++ t = sep b ++ (40 :: (quoteT tag ++ ([32, 123] ++ (attrsT true a ++ (125 :: ([32, 91] ++ (k.tx true ++ ([93, 41] ++ (m.tx false ++ t))))))))) := by
      simp [D.tx, h0]
    rw [e]
    refine rd_sep b (.host tag a k .nil) _ (m.tx false ++ t) t m 40 _ rfl (.inr rfl) ?_ h2
    rw [nodeR_def, nodeF, if_pos (by rw [pre_cons, pre_nil]; rfl), List.drop_succ_cons, List.drop_zero, quotedR_back]
    simp only [Option.bind_some]
    rw [takeR_app]
    simp only [Option.bind_some]
    rw [attrsR_back a true _ ha]
    simp only [Option.bind_some]
    rw [show (125 : UInt8) :: ([32, 91] ++ (k.tx true ++ ([93, 41] ++ (m.tx false ++ t)))) = [125, 32, 91] ++ (k.tx true ++ ([93, 41] ++ (m.tx false ++ t))) from rfl, takeR_app]
    simp only [Option.bind_some]
    rw [h3]
    simp only [Option.bind_some]
    rw [takeR_app]
    rfl
/-- Two documents of one text are one. -/
theorem tx_one {d e : D} (hd : d.fine) (he : e.fine) (h : d.tx true = e.tx true) : d = e := by
  have a := rd_back d true [] hd rfl
  have b := rd_back e true [] he rfl
  rw [h, b] at a
  have := Option.some.inj a
  exact (congrArg Prod.fst this).symm
end Go.Proofs.YtajmdhcknmmbbaaGreatDoor.Sh
