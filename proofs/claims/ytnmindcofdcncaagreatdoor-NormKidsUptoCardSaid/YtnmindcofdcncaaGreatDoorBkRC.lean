/-
  Walks: the book is told a child, children, and all lists within.
  Conditions: what is told lies in memory older than the book.
-/
import Derived.Test.YtnmindcofdcncaaGreatDoorBkR
import Derived.Test.YtnmindcofdcncaaGreatDoorBkChild
import Derived.Test.YtnmindcofdcncaaGreatDoorNkC
namespace Go.Proofs.YtnmindcofdcncaaGreatDoor.Bk
set_option linter.unusedVariables false
set_option linter.unusedSimpArgs false
open Go.RowKit
theorem keepChild_bt {ht : Nat → TypeId} {w0 w : World} {B : Nat} {T p : List (Nat × Value)} {X : Nat → Prop} {wx : World} (hht : ht 6 = 97) (hT : T.length ≤ 1099511627776) (h : BT ht w0 B T X wx p w) {a : Option Addr} {l q : Nat} (hp : p ++ [(6, .slice a l q)] <+: T) :
    Calls Tryz.prog 28 #[.pointer (some ⟨B, 0, none⟩), .slice a l q] w fun e w' => e = .returned (.tuple #[]) ∧ BT ht w0 B T X wx (p ++ [(6, .slice a l q)]) w' := by
  obtain ⟨v, hb, hv, hx⟩ := h
  obtain ⟨r, hr⟩ := hp
  have hl : p.length ≤ 1099511627776 := by rw [← hr] at hT; simp at hT; omega
  have hc := cnt_le p 6
  have hr2 : T = p ++ (6, .slice a l q) :: r := by rw [← hr]; simp
  refine (keepChild_fr hht hb (by omega) (by omega) (sOf_at hr2) (nOf_at hr2)).mono ?_
  rintro e w' ⟨rfl, b, c, hk, hf, hn⟩
  exact ⟨rfl, BT.more (by decide) (by decide) hv hx hf hn hk⟩
set_option maxHeartbeats 400000 in
theorem childT_any {ht : Nat → TypeId} {w0 : World} {T : List (Nat × Value)} (c : C) (hv : TellOk ht w0 T c.val) (X : Nat → Prop) (wx : World) (p : List (Nat × Value)) (W : World) (h : BT ht w0 w0.heap.size T X wx p W) (hin : c.val.In w0) (hp : p ++ toldV c.val <+: T) :
    Calls Tryz.prog 27 #[.pointer (some ⟨w0.heap.size, 0, none⟩), c.agg] W fun e w' => e = .returned (.tuple #[]) ∧ BT ht w0 w0.heap.size T X wx (p ++ toldV c.val) w' := by
  obtain ⟨ck, ce, cn, v⟩ := c
  simp only at hv hin hp ⊢
  have H := Lib.hid (fun W' (hb : Below W.heap.size W W') => hv X wx p W' (h.below hb) hin hp)
  generalize toldV v = tv at H ⊢
  cases v with
  | leaf => exact hin.elim
  | mk k2 n2 s2 la2 ll2 lc2 L2 fa2 fl2 fc2 fn2 F2 e2 key2 hk2 =>
  clear hv h hin hp
  simp only [V.agg, V.cells, C.agg, C.cells] at H ⊢
  generalize w0.heap.size = B at H ⊢
  go_enter Tryz.func27, Tryz.ntmps27
  go_wp2_with (go_at_call 25; (with_reducible refine (H.out _ (below_alloc _ _)).mono ?_); rintro x w1 ⟨rfl, h1⟩; have H1 := Lib.hid h1; clear h1)
  go_end0
  exact ⟨rfl, H1.out⟩
def toldCs (la : Option Addr) (ll lc : Nat) (K : Nat → C) : List (Nat × Value) := joinL ll (fun i => toldV (K i).val) ++ [(6, .slice la ll lc)]
set_option maxHeartbeats 1000000 in
theorem childrenT_any {ht : Nat → TypeId} {w0 : World} {T : List (Nat × Value)} (h3 : ht 3 = 95) (h4 : ht 4 = 106) (hht : ht 6 = 97) (hT : T.length ≤ 1099511627776) (la : Option Addr) (ll lc : Nat) (K : Nat → C) (X : Nat → Prop) (wx : World) (p : List (Nat × Value)) (W : World) (hlc : ll ≤ lc ∧ lc ≤ maxLen)
    (h : ∀ i, i < ll → (∃ b o, la = some ⟨b, o, none⟩ ∧ At w0 b (o + i * 11) (K i).cells) ∧ (K i).val.In w0) (hb : BT ht w0 w0.heap.size T X wx p W) (hp : p ++ toldCs la ll lc K <+: T) :
    Calls Tryz.prog 12 #[.pointer (some ⟨w0.heap.size, 0, none⟩), .slice la ll lc] W fun e w' => e = .returned (.tuple #[]) ∧ BT ht w0 w0.heap.size T X wx (p ++ toldCs la ll lc K) w' := by
  unfold maxLen at hlc
  have HP : Hid (p ++ (joinL ll (fun i => toldV (K i).val) ++ [(6, .slice la ll lc)]) <+: T) := Lib.hid hp
  have HK := Lib.hid (fun W' (ok : BT ht w0 w0.heap.size T X wx (p ++ joinL ll (fun i => toldV (K i).val)) W') => keepChild_bt hht hT ok (pre_z HP.out))
  have HV := Lib.hid (fun c => show TellOk ht w0 T c from valueT_any h3 h4 hT c)
  have HE : Hid (p ++ toldCs la ll lc K = (p ++ joinL ll (fun i => toldV (K i).val)) ++ [(6, .slice la ll lc)]) := Lib.hid (by rw [List.append_assoc]; rfl)
  rw [HE.out]
  have OK0 := Lib.hid hb
  have H := Lib.hid h
  clear h hb hp hT h3 h4
  go_enter Tryz.func12, Tryz.ntmps12
  go_wp2_with fail
  go_loopw [4] (fun i wr => ∃ k : Nat, k ≤ ll ∧ i = .int .i64 k ∧ BT ht w0 w0.heap.size T X wx (p ++ joinL k (fun i => toldV (K i).val)) wr) (fun i _ => ll - (intOf i).toNat)
  case atStart => exact ⟨0, Nat.zero_le _, rfl, by have := OK0.out; simpa [joinL] using this⟩
  case round =>
    clear OK0
    obtain ⟨k, hk, rfl, ok⟩ := hrel
    by_cases hlt : k < ll
    · obtain ⟨⟨b2, o2, he, hat⟩, hin⟩ := H.out k hlt
      obtain rfl := he
      have hat := At.below (ok.low) hat
      have HX := Lib.hid (fun W' (hb : Below wr.heap.size wr W') => (fun ok => childT_any (K k) (HV.out _) _ _ _ _ ok hin (pre_k hlt HP.out)) (ok.below hb))
      have HJ : Hid ((p ++ joinL k (fun i => toldV (K i).val)) ++ toldV (K k).val = p ++ joinL (k + 1) (fun i => toldV (K i).val)) := Lib.hid (by rw [List.append_assoc]; rfl)
      rw [HJ.out] at HX
      generalize K k = c at hat HX hin
      obtain ⟨ck, ce, cn, v⟩ := c
      simp only at hin
      cases v with
      | leaf => exact hin.elim
      | mk k2 n2 s2 la2 ll2 lc2 L2 fa2 fl2 fc2 fn2 F2 e2 key2 hk2 =>
      obtain ⟨c0, c1, c2, c3, c4, c5, c6, c7, c8, c9, c10⟩ := at11 hat
      clear hat hin ok HJ
      simp only [V.agg, V.cells, C.agg, C.cells] at HX
      have hlt' : (k : Int) < (ll : Int) := by omega
      have hk0 : (0 : Int) ≤ (k : Int) := by omega
      generalize w0.heap.size = B at HX HK H ⊢
      go_wp2_with (go_at_call 27; (with_reducible refine (HX.out _ (by first | exact Below.refl _ _ | exact (Below.refl _ _).drew)).mono ?_); rintro x w1 ⟨rfl, h1⟩; have H1 := Lib.hid h1; clear h1)
      refine ⟨⟨k + 1, hlt, by go_num, H1.out⟩, by simp [intOf]; omega⟩
    · obtain rfl : k = ll := by omega
      have HKK := Lib.hid (HK.out _ ok)
      clear ok
      go_wp2_with (go_at_call 28; (with_reducible refine HKK.out.mono ?_); rintro x w1 ⟨rfl, h1⟩; have H1 := Lib.hid h1; clear h1)
      go_end0
      exact ⟨rfl, H1.out⟩
end Go.Proofs.YtnmindcofdcncaaGreatDoor.Bk
