/-
  Names alone: what the book's texts import under this name lies in another text of this seat.
  Conditions: none.
  Plain: lists told of rows of one's own, no two in one block: the book is such that Apart may be asked of it.
  Conditions: each list told is none or a row of its own behind a world; no block is told twice.
-/
import Derived.Test.YtmhemajcnfcdmaaGreatDoorOpOwn
import Derived.Test.YtmhemajcnfcdmaaGreatDoorOMa

namespace Go.Proofs.YtmhemajcnfcdmaaGreatDoor.Bk
set_option linter.unusedVariables false
set_option linter.unusedSimpArgs false
open Go.RowKit
theorem filter_fst (q : Nat × Value → Bool) (T : List (Nat × Value)) : ∀ k, ((T.zipIdx k).filter (fun x => q x.1)).map (·.1) = T.filter q := by
  induction T with
  | nil => intro k; rfl
  | cons a r ih =>
    intro k
    rw [List.zipIdx_cons, List.filter_cons, List.filter_cons]
    have := ih (k + 1)
    by_cases h : q a = true
    · simp [h, this]
    · simp [h, this]
def posOf (T : List (Nat × Value)) (κ i : Nat) : Nat := ((T.zipIdx.filter (fun x => x.1.1 == κ)).map (·.2)).getD i 0
theorem pos_at {T : List (Nat × Value)} {κ i : Nat} (hi : i < cnt T κ) : T[posOf T κ i]? = some (κ, sOf T κ i) ∧ nOf T κ i = (posOf T κ i : Int) + 1 := by
  have hl : i < (T.zipIdx.filter (fun x => x.1.1 == κ)).length := by rw [zip_cnt T κ 0]; exact hi
  obtain ⟨h1, h2⟩ := List.mem_filter.1 (List.getElem_mem hl)
  have h3 := List.mem_zipIdx_iff_getElem?.1 h1
  have e1 : posOf T κ i = ((T.zipIdx.filter (fun x => x.1.1 == κ))[i]).2 := by simp [posOf, List.getD_eq_getElem?_getD, hl]
  have e2 : sOf T κ i = ((T.zipIdx.filter (fun x => x.1.1 == κ))[i]).1.2 := by
    unfold sOf
    rw [← filter_fst (fun x => x.1 == κ) T 0]
    simp [List.getD_eq_getElem?_getD, hl]
  have e3 : nOf T κ i = (((T.zipIdx.filter (fun x => x.1.1 == κ))[i]).2 : Int) + 1 := by simp [nOf, List.getD_eq_getElem?_getD, hl]
  refine ⟨?_, by rw [e3, e1]⟩
  rw [e1, h3, e2]
  have h4 : ((T.zipIdx.filter (fun x => x.1.1 == κ))[i]).1.1 = κ := by simpa using h2
  exact congrArg some (Prod.ext h4 rfl)
theorem pos_inj {T : List (Nat × Value)} {κ i j : Nat} (hi : i < cnt T κ) (hj : j < cnt T κ) (h : posOf T κ i = posOf T κ j) : i = j := by
  have hl : (T.zipIdx.filter (fun x => x.1.1 == κ)).length = cnt T κ := zip_cnt T κ 0
  have hn : ((T.zipIdx.filter (fun x => x.1.1 == κ)).map (·.2)).Nodup := by
    refine List.Nodup.sublist ((List.filter_sublist).map _) ?_
    rw [List.zipIdx_map_snd]
    exact List.nodup_range'
  have hi' : i < ((T.zipIdx.filter (fun x => x.1.1 == κ)).map (·.2)).length := by rw [List.length_map, hl]; exact hi
  have hj' : j < ((T.zipIdx.filter (fun x => x.1.1 == κ)).map (·.2)).length := by rw [List.length_map, hl]; exact hj
  have e : ∀ q (hq : q < ((T.zipIdx.filter (fun x => x.1.1 == κ)).map (·.2)).length), ((T.zipIdx.filter (fun x => x.1.1 == κ)).map (·.2))[q] = posOf T κ q := fun q hq => by
    unfold posOf
    rw [List.getD_eq_getElem?_getD, List.getElem?_eq_getElem hq]
    rfl
  have h2 := List.pairwise_iff_getElem.1 hn
  rcases Nat.lt_trichotomy i j with q | q | q
  · exact absurd (by rw [e, e, h]) (h2 i j hi' hj' q)
  · exact q
  · exact absurd (by rw [e, e, h]) (h2 j i hj' hi' q)
def adr : Value → List Nat
  | .slice (some a) _ _ => [a.block]
  | _ => []
def sa' : Value → Option Addr
  | .slice a _ _ => a
  | _ => none
def ln' : Value → Nat
  | .slice _ l _ => l
  | _ => 0
def sc' : Value → Nat
  | .slice _ _ c => c
  | _ => 0
structure GoodT (K : KTab) (wb w0 : World) (P : Nat → Prop) (T : List (Nat × Value)) : Prop where
  row : ∀ κ s, (κ, s) ∈ T → P κ ∧ ∃ a l c, s = .slice a l c ∧ OwnRow w0 (K.ty κ) (K.sz κ) a l c ∧ (l ≤ c ∧ c ≤ maxLen) ∧ l ≤ 68719476736 ∧ ∀ x, a = some x → wb.heap.size ≤ x.block
  nod : (T.flatMap (fun x => adr x.2)).Nodup
theorem nodup_two {T : List (Nat × Value)} (h : (T.flatMap (fun x => adr x.2)).Nodup) {p q : Nat} {x y : Nat × Value} (hp : T[p]? = some x) (hq : T[q]? = some y) (hne : p ≠ q) {b : Nat} (h1 : b ∈ adr x.2) : b ∉ adr y.2 := by
  rw [List.Nodup, List.pairwise_flatMap] at h
  have h2 := List.pairwise_iff_getElem.1 h.2
  obtain ⟨lp, rfl⟩ := List.getElem?_eq_some_iff.1 hp
  obtain ⟨lq, rfl⟩ := List.getElem?_eq_some_iff.1 hq
  intro h3
  rcases Nat.lt_or_ge p q with hlt | hge
  · exact h2 p q lp lq hlt b h1 b h3 rfl
  · exact h2 q p lq lp (by omega) b h3 b h1 rfl
theorem own_of {w : World} {base : Nat} {T : TypeId} {size : Nat} {a : Option Addr} {n c : Nat} (h : OwnRow w T size a n c) (hl : n ≤ c ∧ c ≤ maxLen) (hb : ∀ x, a = some x → base ≤ x.block) : ∃ X, w.ownsRow base T size (.slice a n c) n X := by
  rcases h with ⟨rfl, rfl, rfl⟩ | ⟨g, cur, rfl, h2, h3⟩
  · exact ⟨[], World.ownsRow_nil _ _ _ _⟩
  · refine ⟨cur.toList.take (n * size), ?_, .inr ⟨g, c, cur, rfl, hb _ rfl, h2, hl.1, hl.2, h3, rfl⟩⟩
    rw [List.length_take, Array.length_toList, h3]
    exact Nat.min_eq_left (Nat.mul_le_mul_right _ hl.1)
def bkD (B : Nat) (T : List (Nat × Value)) (v : Nat → Value) : BkD := ⟨B, fun κ => ((sa' (v κ)).map (fun a => a.block)).getD 0, cnt T, fun κ => sc' (v κ), fun κ i => sa' (sOf T κ i), fun κ i => ln' (sOf T κ i), fun κ i => sc' (sOf T κ i), nOf T⟩
theorem bt_good {ht : Nat → TypeId} {K : KTab} {wb w0 wx W : World} {P : Nat → Prop} {X : Nat → Prop} {T : List (Nat × Value)} (hb : Below wb.heap.size wb w0) (hT : T.length ≤ 1099511627776) (hP : ∀ κ, P κ → 1 ≤ κ ∧ κ < 17) (h : BT ht w0 w0.heap.size T X wx T W) (g : GoodT K wb w0 P T) :
    ∃ D : BkD, D.B = w0.heap.size ∧ BkS D wb ∧ (∀ κ, ¬ (1 ≤ κ ∧ κ < 17) → D.m κ = 0) ∧ (∀ κ, ¬ P κ → D.m κ = 0) ∧ (∀ κ i, i < D.m κ → 1 ≤ D.N κ i ∧ D.N κ i ≤ 1099511627776) ∧ BkT D wb W ∧ RowsF K D wb (fillF D 1 0 0) W := by
  obtain ⟨v, hbm, hv, -⟩ := h
  have mem : ∀ κ i, i < cnt T κ → (κ, sOf T κ i) ∈ T := fun κ i hi => List.mem_of_getElem? (pos_at hi).1
  have hmP : ∀ κ, ¬ P κ → cnt T κ = 0 := fun κ hn => by
    rcases Nat.eq_zero_or_pos (cnt T κ) with q | q
    · exact q
    · exact absurd (g.row κ _ (mem κ 0 q)).1 hn
  have hm0 : ∀ κ, ¬ (1 ≤ κ ∧ κ < 17) → cnt T κ = 0 := fun κ hn => hmP κ (fun q => hn (hP κ q))
  have hS : ∀ κ i, i < cnt T κ → sOf T κ i = .slice (sa' (sOf T κ i)) (ln' (sOf T κ i)) (sc' (sOf T κ i)) ∧ OwnRow w0 (K.ty κ) (K.sz κ) (sa' (sOf T κ i)) (ln' (sOf T κ i)) (sc' (sOf T κ i)) ∧ (ln' (sOf T κ i) ≤ sc' (sOf T κ i) ∧ sc' (sOf T κ i) ≤ maxLen) ∧ ln' (sOf T κ i) ≤ 68719476736 ∧ ∀ x, sa' (sOf T κ i) = some x → wb.heap.size ≤ x.block := fun κ i hi => by
    obtain ⟨-, a, l, c, e, h1, h2, h3, h4⟩ := g.row κ _ (mem κ i hi)
    rw [e]
    exact ⟨rfl, h1, h2, h3, h4⟩
  have hN : ∀ κ i, i < cnt T κ → 1 ≤ nOf T κ i ∧ nOf T κ i ≤ 1099511627776 := fun κ i hi => by
    obtain ⟨h1, h2⟩ := pos_at hi
    have := (List.getElem?_eq_some_iff.1 h1).1
    omega
  have hlt : ∀ κ i, i < cnt T κ → ∀ b, sa' (sOf T κ i) = some ⟨b, 0, none⟩ → b < w0.heap.size := fun κ i hi b e => by
    rcases (hS κ i hi).2.1 with ⟨e', -⟩ | ⟨g', cur, e', h2, -⟩
    · rw [e] at e'; cases e'
    · rw [e] at e'
      simp only [Option.some.injEq, Addr.mk.injEq, and_true] at e'
      subst e'
      exact (Array.getElem?_eq_some_iff.1 h2).1
  have hvs : ∀ κ, 0 < cnt T κ → v κ = .slice (some ⟨((sa' (v κ)).map (fun a => a.block)).getD 0, 0, none⟩) (cnt T κ) (sc' (v κ)) := fun κ h0 => by
    obtain ⟨b, c, e⟩ := (hv κ).2 h0
    rw [e]; rfl
  obtain ⟨t1, t2, t3⟩ := BM.toT (D := bkD w0.heap.size T v) (wb := wb) hbm hb hb.size hm0 (fun κ _ _ h0 => hvs κ h0) (fun κ _ _ h0 => (hv κ).1 h0) (fun κ i hi => (hS κ i hi).1)
  refine ⟨bkD w0.heap.size T v, rfl, ⟨hb.size, fun κ h0 => ?_, t3, fun κ => ?_, fun κ i hi => ?_, fun κ i hi => (hS κ i hi).2.2.2.1, fun κ i hi b e => ⟨?_, fun κ' h0' => ?_⟩, fun κ i hi κ' j hj hij b e e' => ?_⟩, hm0, hmP, hN, t1, fun κ j hj => ?_⟩
  · have := t2 κ h0
    have hs := hb.size
    have e : (bkD w0.heap.size T v).B = w0.heap.size := rfl
    omega
  · rcases Nat.eq_zero_or_pos (cnt T κ) with q | q
    · show cnt T κ ≤ sc' (v κ) ∧ sc' (v κ) ≤ maxLen
      rw [q, (hv κ).1 q]
      exact ⟨Nat.zero_le _, by decide⟩
    · exact (t2 κ q).2.2
  · have := hN κ i hi
    show -9223372036854775808 ≤ nOf T κ i ∧ nOf T κ i ≤ 9223372036854775807
    omega
  · exact Nat.ne_of_lt (hlt κ i hi b e)
  · have h1 := (t2 κ' h0').1
    have h2 := hlt κ i hi b e
    have e : (bkD w0.heap.size T v).B = w0.heap.size := rfl
    omega
  · have p1 := (pos_at hi).1
    have p2 := (pos_at hj).1
    have hne : posOf T κ i ≠ posOf T κ' j := fun q => by
      rw [q] at p1
      rw [p1] at p2
      have hk : κ = κ' := by simpa using congrArg (fun x => (x.map (·.1)).getD 0) p2
      subst hk
      exact hij ⟨rfl, pos_inj hi hj q⟩
    have e : sa' (sOf T κ i) = some ⟨b, 0, none⟩ := e
    have e' : sa' (sOf T κ' j) = some ⟨b, 0, none⟩ := e'
    refine nodup_two g.nod p1 p2 hne (b := b) ?_ ?_
    · show b ∈ adr (sOf T κ i)
      rw [(hS κ i hi).1, e]
      simp [adr]
    · show b ∈ adr (sOf T κ' j)
      rw [(hS κ' j hj).1, e']
      simp [adr]
  · have hk := hP κ (g.row κ _ (mem κ j hj)).1
    have hz : fillF (bkD w0.heap.size T v) 1 0 0 κ j = 0 := by
      unfold fillF
      rw [if_neg (by omega)]
      by_cases q : κ = 1
      · rw [if_pos q, if_neg (by omega)]
        split <;> rfl
      · rw [if_neg q]
    rw [hz]
    obtain ⟨X', hX⟩ := own_of (base := wb.heap.size) (hS κ j hj).2.1 (hS κ j hj).2.2.1 (hS κ j hj).2.2.2.2
    exact ⟨X', ownsRow_below hX hbm.low, fun q hq => absurd hq (Nat.not_lt_zero _)⟩
end Go.Proofs.YtmhemajcnfcdmaaGreatDoor.Bk
