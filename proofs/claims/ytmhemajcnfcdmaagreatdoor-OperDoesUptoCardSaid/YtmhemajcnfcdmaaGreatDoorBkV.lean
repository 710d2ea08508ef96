/-
  Plain: what is told of a value of one's own: rows of one's own, and its blocks.
  Conditions: none.
-/
import Derived.Test.YtmhemajcnfcdmaaGreatDoorOMe
import Derived.Test.YtmhemajcnfcdmaaGreatDoorOMl
namespace Go.Proofs.YtmhemajcnfcdmaaGreatDoor.Bk
set_option linter.unusedVariables false
set_option linter.unusedSimpArgs false
open Go.RowKit
theorem joinL_mem {α : Type} {n : Nat} {f : Nat → List α} {x : α} : x ∈ joinL n f ↔ ∃ i, i < n ∧ x ∈ f i := by
  induction n with
  | zero => simp [joinL]
  | succ n ih =>
    rw [joinL, List.mem_append, ih]
    constructor
    · rintro (⟨i, hi, h⟩ | h)
      · exact ⟨i, by omega, h⟩
      · exact ⟨n, by omega, h⟩
    · rintro ⟨i, hi, h⟩
      rcases Nat.lt_succ_iff_lt_or_eq.1 hi with h1 | rfl
      · exact .inl ⟨i, h1, h⟩
      · exact .inr h
theorem joinL_len {α : Type} {n : Nat} {f : Nat → List α} {g : Nat → Nat} (h : ∀ i, i < n → (f i).length = 2 * g i) : (joinL n f).length = 2 * sumTo n g := by
  induction n with
  | zero => rfl
  | succ n ih => rw [joinL, List.length_append, ih (fun i hi => h i (by omega)), h n (by omega), sumTo]; omega
theorem told_len : ∀ v : V, (toldV v).length = 2 * v.size := by
  intro v
  induction v with
  | leaf => rfl
  | mk k n s la ll lc L fa fl fc fn F e key hk ihL ihF =>
    rw [toldV_mk, toldVs, toldFs, List.length_append, List.length_append, List.length_append, joinL_len (fun i _ => ihL i), joinL_len (fun i _ => ihF i), V.size]
    simp
    omega
def bl (T : List (Nat × Value)) : List Nat := T.flatMap (fun x => adr x.2)
theorem bl_append (T U : List (Nat × Value)) : bl (T ++ U) = bl T ++ bl U := List.flatMap_append
theorem bl_one (κ : Nat) (a : Option Addr) (l c : Nat) : bl [(κ, .slice a l c)] = addrs a := by
  cases a <;> simp [bl, adr, addrs]
theorem bl_join {n : Nat} {f : Nat → List (Nat × Value)} : bl (joinL n f) = joinTo n (fun i => bl (f i)) := by
  induction n with
  | zero => rfl
  | succ n ih => rw [joinL, bl_append, ih, joinTo]
theorem joinTo_perm {n : Nat} {f g : Nat → List Nat} (h : ∀ i, i < n → (f i).Perm (g i)) : (joinTo n f).Perm (joinTo n g) := by
  induction n with
  | zero => exact List.Perm.refl _
  | succ n ih => rw [joinTo, joinTo]; exact (ih (fun i hi => h i (by omega))).append (h n (by omega))
theorem bl_told : ∀ v : V, (bl (toldV v)).Perm v.blocks := by
  intro v
  induction v with
  | leaf => exact List.Perm.refl _
  | mk k n s la ll lc L fa fl fc fn F e key hk ihL ihF =>
    rw [toldV_mk, toldVs, toldFs, bl_append, bl_append, bl_append, bl_one, bl_one, bl_join, bl_join, V.blocks]
    refine List.Perm.trans ?_ (List.Perm.of_eq (List.append_assoc _ _ _))
    exact (List.perm_append_comm.trans ((List.Perm.refl _).append (joinTo_perm fun i _ => ihL i))).append (List.perm_append_comm.trans ((List.Perm.refl _).append (joinTo_perm fun i _ => ihF i)))
def RowOk (K : KTab) (wb w0 : World) (P : Nat → Prop) (x : Nat × Value) : Prop := P x.1 ∧ ∃ a l c, x.2 = .slice a l c ∧ OwnRow w0 (K.ty x.1) (K.sz x.1) a l c ∧ (l ≤ c ∧ c ≤ maxLen) ∧ l ≤ 68719476736 ∧ ∀ y, a = some y → wb.heap.size ≤ y.block
theorem good_of {K : KTab} {wb w0 : World} {P : Nat → Prop} {T : List (Nat × Value)} (h : ∀ x ∈ T, RowOk K wb w0 P x) (hn : (bl T).Nodup) : GoodT K wb w0 P T := ⟨fun κ s hx => h _ hx, hn⟩
structure KV (K : KTab) (P : Nat → Prop) : Prop where
  t3 : K.ty 3 = 30 ∧ K.sz 3 = 8 ∧ P 3
  t4 : K.ty 4 = 78 ∧ K.sz 4 = 9 ∧ P 4
theorem told_rows {K : KTab} {wb w0 : World} {P : Nat → Prop} (hk : KV K P) : ∀ {v : V}, v.In w0 → v.Own w0 → v.From wb.heap.size → v.size ≤ 68719476736 → ∀ x ∈ toldV v, RowOk K wb w0 P x := by
  intro v
  induction v with
  | leaf => exact fun h => h.elim
  | mk k n s la ll lc L fa fl fc fn F e key hk' ihL ihF =>
    intro hin hown hfrm hsz x hx
    have hl := Tw.lens_le hin
    obtain ⟨-, -, -, -, -, h1, h2, h3, h4⟩ := hin
    obtain ⟨o1, o2, o3, o4⟩ := hown
    obtain ⟨f1, f2, f3, f4⟩ := hfrm
    have hsL : ∀ i, i < ll → (L i).size ≤ 68719476736 := fun i hi => by
      have := Tw.le_sumTo (f := fun i => (L i).size) hi
      simp only [V.size] at hsz this
      omega
    have hsF : ∀ i, i < fl → (F i).size ≤ 68719476736 := fun i hi => by
      have := Tw.le_sumTo (f := fun i => (F i).size) hi
      simp only [V.size] at hsz this
      omega
    rw [toldV_mk, toldVs, toldFs] at hx
    simp only [List.mem_append, joinL_mem, List.mem_singleton] at hx
    rcases hx with (⟨i, hi, hx⟩ | rfl) | (⟨i, hi, hx⟩ | rfl)
    · exact ihL i (h3 i hi).2 (o3 i hi) (f3 i hi) (hsL i hi) x hx
    · exact ⟨hk.t3.2.2, la, ll, lc, rfl, by rw [hk.t3.1, hk.t3.2.1]; exact o1, h1, by omega, f1⟩
    · exact ihF i (h4 i hi).2.2 (o4 i hi) (f4 i hi) (hsF i hi) x hx
    · exact ⟨hk.t4.2.2, fa, fl, fc, rfl, by rw [hk.t4.1, hk.t4.2.1]; exact o2, h2, by omega, f2⟩
theorem toldVs_rows {K : KTab} {wb w0 : World} {P : Nat → Prop} (hk : KV K P) {a : Option Addr} {l c : Nat} {L : Nat → V} (ho : OwnRow w0 30 8 a l c) (hl : l ≤ c ∧ c ≤ maxLen) (hs : l ≤ 68719476736) (hf : ∀ y, a = some y → wb.heap.size ≤ y.block)
    (h : ∀ i, i < l → (L i).In w0 ∧ (L i).Own w0 ∧ (L i).From wb.heap.size ∧ (L i).size ≤ 68719476736) : ∀ x ∈ toldVs a l c L, RowOk K wb w0 P x := by
  intro x hx
  rw [toldVs] at hx
  simp only [List.mem_append, joinL_mem, List.mem_singleton] at hx
  rcases hx with ⟨i, hi, hx⟩ | rfl
  · obtain ⟨h1, h2, h3, h4⟩ := h i hi
    exact told_rows hk h1 h2 h3 h4 x hx
  · exact ⟨hk.t3.2.2, a, l, c, rfl, by rw [hk.t3.1, hk.t3.2.1]; exact ho, hl, hs, hf⟩
theorem bl_toldVs {a : Option Addr} {l c : Nat} {L : Nat → V} : (bl (toldVs a l c L)).Perm (addrs a ++ joinTo l (fun i => (L i).blocks)) := by
  rw [toldVs, bl_append, bl_one, bl_join]
  exact List.perm_append_comm.trans ((List.Perm.refl _).append (joinTo_perm fun i _ => bl_told _))
theorem toldVs_len {a : Option Addr} {l c : Nat} {L : Nat → V} : (toldVs a l c L).length = 2 * sumTo l (fun i => (L i).size) + 1 := by
  rw [toldVs, List.length_append, joinL_len (fun i _ => told_len (L i))]; rfl
theorem bl_two {T U : List (Nat × Value)} {m : Nat} (hT : (bl T).Nodup) (hU : (bl U).Nodup) (h1 : ∀ x ∈ bl T, x < m) (h2 : ∀ x ∈ bl U, m ≤ x) : (bl (T ++ U)).Nodup := by
  rw [bl_append]
  exact List.nodup_append.2 ⟨hT, hU, fun x hx y hy e => by have := h1 x hx; have := h2 y hy; omega⟩
end Go.Proofs.YtmhemajcnfcdmaaGreatDoor.Bk
