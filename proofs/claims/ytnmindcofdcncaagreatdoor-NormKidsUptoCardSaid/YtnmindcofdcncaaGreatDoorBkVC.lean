/-
  Plain: what is told of children whose lists are rows of their own.
  Conditions: none.
-/
import Derived.Test.YtnmindcofdcncaaGreatDoorBkV
import Derived.Test.YtnmindcofdcncaaGreatDoorBkRC
import Derived.Test.YtnmindcofdcncaaGreatDoorKMf
namespace Go.Proofs.YtnmindcofdcncaaGreatDoor.Bk
set_option linter.unusedVariables false
set_option linter.unusedSimpArgs false
open Go.RowKit
def gC (cs : List C) : Nat → C := fun i => (cs[i]?).getD ⟨⟨#[]⟩, 0, ⟨#[]⟩, .leaf⟩
theorem gC_at {cs : List C} {i : Nat} (hi : i < cs.length) : gC cs i = cs[i] := by simp [gC, hi]
theorem toldCs_rows {K : KTab} {wb w0 : World} {P : Nat → Prop} (hk : KV K P) (h6 : K.ty 6 = 70 ∧ K.sz 6 = 11 ∧ P 6) {a : Option Addr} {c : Nat} {cs : List C} (ho : OwnRow w0 70 11 a cs.length c) (hl : cs.length ≤ c ∧ c ≤ maxLen) (hs : cs.length ≤ 68719476736) (hf : ∀ y, a = some y → wb.heap.size ≤ y.block)
    (h : ∀ d ∈ cs, d.val.In w0 ∧ d.val.Own w0 ∧ d.val.From wb.heap.size ∧ d.val.size ≤ 68719476736) : ∀ x ∈ toldCs a cs.length c (gC cs), RowOk K wb w0 P x := by
  intro x hx
  rw [toldCs] at hx
  simp only [List.mem_append, joinL_mem, List.mem_singleton] at hx
  rcases hx with ⟨i, hi, hx⟩ | rfl
  · rw [gC_at hi] at hx
    obtain ⟨h1, h2, h3, h4⟩ := h _ (List.getElem_mem hi)
    exact told_rows hk h1 h2 h3 h4 x hx
  · exact ⟨h6.2.2, a, cs.length, c, rfl, by rw [h6.1, h6.2.1]; exact ho, hl, hs, hf⟩
theorem bl_toldCs {a : Option Addr} {l c : Nat} {K : Nat → C} : (bl (toldCs a l c K)).Perm (addrs a ++ joinTo l (fun i => (K i).val.blocks)) := by
  rw [toldCs, bl_append, bl_one, bl_join]
  exact List.perm_append_comm.trans ((List.Perm.refl _).append (joinTo_perm fun i _ => bl_told _))
theorem joinTo_list : ∀ (cs : List C) (f : C → List Nat) (n : Nat), n ≤ cs.length → joinTo n (fun i => f (gC cs i)) = (cs.take n).flatMap f
  | cs, f, 0, _ => rfl
  | cs, f, n + 1, h => by
    have h1 : n < cs.length := h
    rw [joinTo, joinTo_list cs f n (by omega), List.take_add_one, List.getElem?_eq_getElem h1, gC_at h1, List.flatMap_append]
    show _ ++ f cs[n] = _ ++ List.flatMap f [cs[n]]
    rw [List.flatMap_cons, List.flatMap_nil, List.append_nil]
theorem joinTo_all (cs : List C) : joinTo cs.length (fun i => (gC cs i).val.blocks) = cs.flatMap (fun c => c.val.blocks) := by
  rw [joinTo_list cs (fun c => c.val.blocks) _ (Nat.le_refl _), List.take_length]
theorem toldCs_len {a : Option Addr} {l c : Nat} {K : Nat → C} : (toldCs a l c K).length = 2 * sumTo l (fun i => (K i).val.size) + 1 := by
  rw [toldCs, List.length_append, joinL_len (fun i _ => told_len (K i).val)]; rfl
end Go.Proofs.YtnmindcofdcncaaGreatDoor.Bk
