/-
  Plain: nodes that lie in memory, as trees ('N'), whether they may be, what is told of them; their content ('con').
  Conditions: none.
-/
import Derived.Test.YtajmdhcknmmbbaaGreatDoorSMa
import Derived.Test.YtajmdhcknmmbbaaGreatDoorShape
import Derived.Test.YtajmdhcknmmbbaaGreatDoorTellP
import Derived.Test.YtajmdhcknmmbbaaGreatDoorMayP
import Derived.Test.YtajmdhcknmmbbaaGreatDoorAliveP
namespace Go.Proofs.YtajmdhcknmmbbaaGreatDoor.Sh
set_option linter.unusedVariables false
set_option linter.unusedSimpArgs false
open Go.Proofs.YtajmdhcknmmbbaaGreatDoor Go Go.RowKit

/-- A node with its two lists' addresses, lengths and capacities. -/
inductive N where
  | leaf
  | mk (id : Int) (tag text : ByteArray) (aa : Option Addr) (al ac : Nat) (an : Nat → ByteArray) (A : Nat → V) (ka : Option Addr) (kl kc : Nat) (K : Nat → N)
instance : Inhabited N := ⟨.leaf⟩
def N.cells : N → List Value
  | .leaf => []
  | .mk id tag text aa al ac _ _ ka kl kc _ => [.int .i64 id, .string tag, .string text, .slice aa al ac, .slice ka kl kc]
def N.agg (n : N) : Value := .agg n.cells.toArray

/-- Attributes lie in w. -/
def FsIn (w : World) (aa : Option Addr) (al : Nat) (an : Nat → ByteArray) (A : Nat → V) : Prop :=
  ∀ i, i < al → (∃ b o, aa = some ⟨b, o, none⟩ ∧ At w b (o + i * 9) (.string (an i) :: (A i).cells)) ∧ (an i).size ≤ maxLen ∧ (A i).In w
def N.In (w : World) : N → Prop
  | .leaf => False
  | .mk id tag text aa al ac an A ka kl kc K => (-9223372036854775808 ≤ id ∧ id ≤ 9223372036854775807) ∧ tag.size ≤ maxLen ∧ text.size ≤ maxLen ∧ (al ≤ ac ∧ ac ≤ maxLen) ∧ (kl ≤ kc ∧ kc ≤ maxLen) ∧ FsIn w aa al an A ∧
      ∀ i, i < kl → (∃ b o, ka = some ⟨b, o, none⟩ ∧ At w b (o + i * 5) (K i).cells) ∧ (K i).In w
/-- Nodes lie in w, one behind the other. -/
def NsIn (w : World) (a : Option Addr) (n : Nat) (K : Nat → N) : Prop := ∀ i, i < n → (∃ b o, a = some ⟨b, o, none⟩ ∧ At w b (o + i * 5) (K i).cells) ∧ (K i).In w
theorem FsIn.mono {w w' : World} (hh : ∀ a : Addr, a.block < w.heap.size → w'.cell? a = w.cell? a) {aa : Option Addr} {al : Nat} {an : Nat → ByteArray} {A : Nat → V} (h : FsIn w aa al an A) : FsIn w' aa al an A := fun i hi => by
  obtain ⟨⟨b, o, e1, ha⟩, hs, hi'⟩ := h i hi
  exact ⟨⟨b, o, e1, ha.mono hh⟩, hs, hi'.mono hh⟩
theorem N.In.mono {w w' : World} (hh : ∀ a : Addr, a.block < w.heap.size → w'.cell? a = w.cell? a) : ∀ {n : N}, n.In w → n.In w' := by
  intro n
  induction n with
  | leaf => exact id
  | mk id tag text aa al ac an A ka kl kc K ih =>
    rintro ⟨h1, h2, h3, h4, h5, hA, hK⟩
    refine ⟨h1, h2, h3, h4, h5, hA.mono hh, fun i hi => ?_⟩
    obtain ⟨⟨b, o, e1, ha⟩, hi'⟩ := hK i hi
    exact ⟨⟨b, o, e1, ha.mono hh⟩, ih i hi'⟩
theorem N.In.below {w w' : World} (hb : Below w.heap.size w w') {n : N} (h : n.In w) : n.In w' := N.In.mono (fun _ ha => hb.cell ha) h
theorem FsIn.below {w w' : World} (hb : Below w.heap.size w w') {aa : Option Addr} {al : Nat} {an : Nat → ByteArray} {A : Nat → V} (h : FsIn w aa al an A) : FsIn w' aa al an A := h.mono fun _ ha => hb.cell ha
theorem NsIn.below {w w' : World} (hb : Below w.heap.size w w') {a : Option Addr} {n : Nat} {K : Nat → N} (h : NsIn w a n K) : NsIn w' a n K := fun i hi => by
  obtain ⟨⟨b, o, e1, ha⟩, hi'⟩ := h i hi
  exact ⟨⟨b, o, e1, ha.mono fun _ ha => hb.cell ha⟩, hi'.below hb⟩

/-! ### May they be? -/
def nameB (s : ByteArray) : Bool := !(s.toList == []) && decide (s.size ≤ 4096)
/-- A value as attributes have them. -/
def V.pv : V → Option PV
  | .leaf => none
  | .mk k n s la ll lc L fa fl fc fn F e key hk => if (V.mk k n s la ll lc L fa fl fc fn F e key hk).check then (if k = 1 then some (.num n) else if k = 2 then some (.tru (decide (n = 1))) else if k = 3 then some (.txt s.data.toList) else none) else none
/-- Not greater than the name ahead of it? -/
def notUp (an : Nat → ByteArray) : Nat → Bool
  | 0 => false
  | i + 1 => bLe (an (i + 1)) (an i)
def aOk (an : Nat → ByteArray) (A : Nat → V) (i : Nat) : Bool := nameB (an i) && (!notUp an i && (V.pv (A i)).isSome)
def textB (tag text : ByteArray) (al kl : Nat) : Bool := (tag.toList == []) && (decide (text.size ≤ 4096) && (decide (al = 0) && decide (kl = 0)))
def hostB (tag text : ByteArray) (al : Nat) (an : Nat → ByteArray) (A : Nat → V) : Bool := nameB tag && ((text.toList == []) && allB al (aOk an A))
def N.may : N → Bool
  | .leaf => false
  | .mk _ tag text _ al _ an A _ kl _ K => (textB tag text al kl || hostB tag text al an A) && allB kl (fun i => (K i).may)

/-! ### What is told -/
def qT (s : ByteArray) : List UInt8 := if s.size ≤ 4096 then quoteT s.data.toList else []
def aTx (an : Nat → ByteArray) (A : Nat → V) (i : Nat) : List UInt8 := qT (an i) ++ (32 :: (A i).text.data.toList)
def N.tx : N → List UInt8
  | .leaf => []
  | .mk _ tag text _ al _ an A _ kl _ K => if (tag.toList == []) then qT text else 40 :: (qT tag ++ ([32, 123] ++ (sepTo al (aTx an A) ++ ([125, 32, 91] ++ (sepTo kl (fun i => (K i).tx) ++ [93, 41])))))

/-! ### What they are -/
def conTo : Nat → (Nat → D → D) → D → D
  | 0, _, d => d
  | n + 1, g, d => conTo n g (g n d)
def aL : Nat → (Nat → ByteArray) → (Nat → V) → List (List UInt8 × PV)
  | 0, _, _ => []
  | n + 1, an, A => aL n an A ++ [((an n).data.toList, ((V.pv (A n)).getD (.num 0)))]
/-- The node, ahead of others. -/
def N.con : N → D → D
  | .leaf => id
  | .mk _ tag text _ al _ an A _ kl _ K => fun d => if (tag.toList == []) then .txt text.data.toList d else .host tag.data.toList (aL al an A) (conTo kl (fun i => (K i).con) .nil) d

theorem esc_eq (b : UInt8) : escB b = esc b := by
  unfold escB esc
  by_cases h1 : b = 34
  · rw [if_pos h1, if_pos h1, h1]
  · rw [if_neg h1, if_neg h1]
    by_cases h2 : b = 92
    · rw [if_pos h2, if_pos h2, h2]
    · rw [if_neg h2, if_neg h2]
theorem quoted_eq (l : List UInt8) : quotedL l = quoteT l := by
  have : escB = esc := funext esc_eq
  rw [quotedL, quoteT, this]
theorem pv_text {v : V} {p : PV} (h : V.pv v = some p) : v.text.data.toList = p.tx := by
  cases v with
  | leaf => cases h
  | mk k n s la ll lc L fa fl fc fn F e key hk =>
    rw [V.pv] at h
    split at h
    · rename_i hc
      rw [V.text, if_pos hc]
      show V.told _ = _
      unfold V.told
      split at h
      · rename_i h1; subst h1; cases h; rfl
      · split at h
        · rename_i h1 h2; subst h2; cases h
          by_cases hn : n = 1
          · subst hn; rfl
          · simp [hn, PV.tx]
        · split at h
          · rename_i h1 h2 h3; subst h3; cases h
            simp [PV.tx, quoted_eq]
          · cases h
    · cases h
theorem pv_fine {v : V} {p : PV} {w : World} (h : V.pv v = some p) (hin : v.In w) : p.fine := by
  cases v with
  | leaf => cases h
  | mk k n s la ll lc L fa fl fc fn F e key hk =>
    rw [V.pv] at h
    split at h
    · split at h
      · cases h; exact ⟨hin.2.1.1, by have := hin.2.1.2; omega⟩
      · split at h
        · cases h; trivial
        · split at h
          · cases h; trivial
          · cases h
    · cases h
theorem qT_eq {s : ByteArray} (h : s.size ≤ 4096) : qT s = quoteT s.data.toList := if_pos h
theorem sepTo_attrs {an : Nat → ByteArray} {A : Nat → V} : ∀ (n : Nat), (∀ i, i < n → aOk an A i = true) → sepTo n (aTx an A) = attrsT true (aL n an A)
  | 0, _ => rfl
  | n + 1, h => by
    have h1 := h n (by omega)
    simp only [aOk, nameB, Bool.and_eq_true, decide_eq_true_eq] at h1
    obtain ⟨p, hp⟩ := Option.isSome_iff_exists.1 h1.2.2
    have snoc : ∀ (l : List (List UInt8 × PV)) (b : Bool) (a : List UInt8 × PV), attrsT b (l ++ [a]) = attrsT b l ++ (sep (b && l.isEmpty) ++ (quoteT a.1 ++ (32 :: a.2.tx))) := by
      intro l
      induction l with
      | nil => intro b a; cases b <;> simp [attrsT, sep]
      | cons x l ih => intro b a; simp [attrsT, ih, List.append_assoc]
    have hl : (aL n an A).isEmpty = decide (n = 0) := by
      cases n with
      | zero => rfl
      | succ n => simp [aL]
    rw [sepTo, aL, snoc, sepTo_attrs n (fun i hi => h i (by omega)), hp, hl, aTx, pv_text hp, qT_eq h1.1.2]
    congr 1
    cases n <;> simp [sep]
theorem tx_con : ∀ (n : N), n.may = true → ∀ (d : D) (b : Bool), (n.con d).tx b = sep b ++ (n.tx ++ d.tx false) := by
  intro n
  induction n with
  | leaf => intro h; cases h
  | mk id tag text aa al ac an A ka kl kc K ih =>
    intro h d b
    simp only [N.may, Bool.and_eq_true, Bool.or_eq_true] at h
    obtain ⟨h, hk⟩ := h
    by_cases ht : (tag.toList == []) = true
    · have hs : text.size ≤ 4096 := by
        rcases h with h | h
        · simp only [textB, Bool.and_eq_true, decide_eq_true_eq] at h; exact h.2.1
        · simp [hostB, nameB, ht] at h
      simp only [N.con, N.tx, ht, if_true, D.tx, qT_eq hs]
    · have hh : hostB tag text al an A = true := by
        rcases h with h | h
        · simp [textB, ht] at h
        · exact h
      simp only [hostB, nameB, Bool.and_eq_true, decide_eq_true_eq] at hh
      have htg : ¬ tag.data.toList = [] := fun e => ht (by rw [Lib.toList_data, e]; rfl)
      have key : ∀ (m : Nat) (e : D), m ≤ kl → (conTo m (fun i => (K i).con) e).tx true = (if m = 0 then e.tx true else sepTo m (fun i => (K i).tx) ++ e.tx false) := by
        intro m
        induction m with
        | zero => intro e _; rfl
        | succ m im =>
          intro e hm
          have h1 := ih m (allB_true.1 hk m (by omega))
          rw [conTo, im _ (by omega), if_neg (Nat.succ_ne_zero m)]
          by_cases h0 : m = 0
          · subst h0
            rw [if_pos rfl, h1]
            simp [sepTo, sep]
          · rw [if_neg h0, h1, sepTo, if_pos (by omega)]
            simp [sep]
      have hkk := key kl .nil (Nat.le_refl _)
      have hkt : (conTo kl (fun i => (K i).con) .nil).tx true = sepTo kl (fun i => (K i).tx) := by
        rw [hkk]
        by_cases h0 : kl = 0
        · subst h0; rfl
        · rw [if_neg h0]; simp [D.tx]
      simp only [N.con, N.tx, ht, if_false, qT_eq hh.1.2, sepTo_attrs al (fun i hi => allB_true.1 hh.2.2 i hi), Bool.false_eq_true]
      rw [D.tx, if_neg htg, hkt]
      simp [List.append_assoc]
/-- What is told of nodes is told of their content. -/
theorem tx_list (K : Nat → N) : ∀ (m : Nat) (e : D), (∀ i, i < m → (K i).may = true) → (conTo m (fun i => (K i).con) e).tx true = (if m = 0 then e.tx true else sepTo m (fun i => (K i).tx) ++ e.tx false)
  | 0, e, _ => rfl
  | m + 1, e, h => by
    have h1 := tx_con (K m) (h m (by omega))
    rw [conTo, tx_list K m _ (fun i hi => h i (by omega)), if_neg (Nat.succ_ne_zero m)]
    by_cases h0 : m = 0
    · subst h0
      rw [if_pos rfl, h1]
      simp [sepTo, sep]
    · rw [if_neg h0, h1, sepTo, if_pos (by omega)]
      simp [sep]
theorem tx_all (K : Nat → N) (m : Nat) (h : ∀ i, i < m → (K i).may = true) : (conTo m (fun i => (K i).con) .nil).tx true = sepTo m (fun i => (K i).tx) := by
  rw [tx_list K m .nil h]
  by_cases h0 : m = 0
  · subst h0; rfl
  · rw [if_neg h0]; simp [D.tx]
end Go.Proofs.YtajmdhcknmmbbaaGreatDoor.Sh
