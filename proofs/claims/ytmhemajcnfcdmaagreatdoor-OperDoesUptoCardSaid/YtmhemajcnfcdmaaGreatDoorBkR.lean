/-
  Walks: the book is told a value, values, a field, fields, and all lists within.
  Conditions: what is told lies in memory older than the book.
-/
import Derived.Test.YtmhemajcnfcdmaaGreatDoorOMa
import Derived.Test.YtmhemajcnfcdmaaGreatDoorBkValue
import Derived.Test.YtmhemajcnfcdmaaGreatDoorBkField
import Derived.Test.YtmhemajcnfcdmaaGreatDoorSize
namespace Go.Proofs.YtmhemajcnfcdmaaGreatDoor.Bk
set_option linter.unusedVariables false
set_option linter.unusedSimpArgs false
open Go.RowKit
theorem pre_a {α : Type} {a b c T : List α} (h : a ++ (b ++ c) <+: T) : a ++ b <+: T := by
  obtain ⟨r, rfl⟩ := h
  exact ⟨c ++ r, by simp⟩
theorem joinL_pre {α : Type} {f : Nat → List α} {k n : Nat} (h : k ≤ n) : joinL k f <+: joinL n f := by
  induction n with
  | zero => rw [Nat.le_zero.1 h]; exact List.prefix_refl _
  | succ n ih =>
    rcases Nat.lt_or_ge k (n + 1) with q | q
    · exact (ih (by omega)).trans (List.prefix_append _ _)
    · rw [Nat.le_antisymm h q]; exact List.prefix_refl _
theorem pre_k {α : Type} {p c T : List α} {f : Nat → List α} {k n : Nat} (hk : k < n) (h : p ++ (joinL n f ++ c) <+: T) : (p ++ joinL k f) ++ f k <+: T := by
  have h1 : p ++ joinL n f <+: T := pre_a h
  have h2 : joinL (k + 1) f <+: joinL n f := joinL_pre hk
  rw [List.append_assoc]
  exact (List.prefix_append_right_inj p |>.2 h2).trans h1
theorem pre_z {α : Type} {p c T : List α} {f : Nat → List α} {n : Nat} (h : p ++ (joinL n f ++ c) <+: T) : (p ++ joinL n f) ++ c <+: T := by rwa [List.append_assoc]
theorem keepValue_bt {ht : Nat → TypeId} {w0 w : World} {B : Nat} {T p : List (Nat × Value)} {X : Nat → Prop} {wx : World} (hht : ht 3 = 84) (hT : T.length ≤ 1099511627776) (h : BT ht w0 B T X wx p w) {a : Option Addr} {l q : Nat} (hp : p ++ [(3, .slice a l q)] <+: T) :
    Calls Tryz.prog 26 #[.pointer (some ⟨B, 0, none⟩), .slice a l q] w fun e w' => e = .returned (.tuple #[]) ∧ BT ht w0 B T X wx (p ++ [(3, .slice a l q)]) w' := by
  obtain ⟨v, hb, hv, hx⟩ := h
  obtain ⟨r, hr⟩ := hp
  have hl : p.length ≤ 1099511627776 := by rw [← hr] at hT; simp at hT; omega
  have hc := cnt_le p 3
  have hr2 : T = p ++ (3, .slice a l q) :: r := by rw [← hr]; simp
  refine (keepValue_fr hht hb (by omega) (by omega) (sOf_at hr2) (nOf_at hr2)).mono ?_
  rintro e w' ⟨rfl, b, c, hk, hf, hn⟩
  exact ⟨rfl, BT.more (by decide) (by decide) hv hx hf hn hk⟩
theorem keepField_bt {ht : Nat → TypeId} {w0 w : World} {B : Nat} {T p : List (Nat × Value)} {X : Nat → Prop} {wx : World} (hht : ht 4 = 95) (hT : T.length ≤ 1099511627776) (h : BT ht w0 B T X wx p w) {a : Option Addr} {l q : Nat} (hp : p ++ [(4, .slice a l q)] <+: T) :
    Calls Tryz.prog 90 #[.pointer (some ⟨B, 0, none⟩), .slice a l q] w fun e w' => e = .returned (.tuple #[]) ∧ BT ht w0 B T X wx (p ++ [(4, .slice a l q)]) w' := by
  obtain ⟨v, hb, hv, hx⟩ := h
  obtain ⟨r, hr⟩ := hp
  have hl : p.length ≤ 1099511627776 := by rw [← hr] at hT; simp at hT; omega
  have hc := cnt_le p 4
  have hr2 : T = p ++ (4, .slice a l q) :: r := by rw [← hr]; simp
  refine (keepField_fr hht hb (by omega) (by omega) (sOf_at hr2) (nOf_at hr2)).mono ?_
  rintro e w' ⟨rfl, b, c, hk, hf, hn⟩
  exact ⟨rfl, BT.more (by decide) (by decide) hv hx hf hn hk⟩
def TellOk (ht : Nat → TypeId) (w0 : World) (T : List (Nat × Value)) (v : V) : Prop := ∀ X wx p W, BT ht w0 w0.heap.size T X wx p W → v.In w0 → p ++ toldV v <+: T → Calls Tryz.prog 12 #[.pointer (some ⟨w0.heap.size, 0, none⟩), v.agg] W fun e w' => e = .returned (.tuple #[]) ∧ BT ht w0 w0.heap.size T X wx (p ++ toldV v) w'
set_option maxHeartbeats 400000 in
theorem fieldT_any {ht : Nat → TypeId} {w0 : World} {T : List (Nat × Value)} (nm : ByteArray) (v : V) (hv : TellOk ht w0 T v) (X : Nat → Prop) (wx : World) (p : List (Nat × Value)) (W : World) (h : BT ht w0 w0.heap.size T X wx p W) (hin : v.In w0) (hp : p ++ toldV v <+: T) :
    Calls Tryz.prog 89 #[.pointer (some ⟨w0.heap.size, 0, none⟩), .agg (Value.string nm :: v.cells).toArray] W fun e w' => e = .returned (.tuple #[]) ∧ BT ht w0 w0.heap.size T X wx (p ++ toldV v) w' := by
  have H := Lib.hid (fun W' (hb : Below W.heap.size W W') => hv X wx p W' (h.below hb) hin hp)
  generalize toldV v = tv at H ⊢
  cases v with
  | leaf => exact hin.elim
  | mk k2 n2 s2 la2 ll2 lc2 L2 fa2 fl2 fc2 fn2 F2 e2 key2 hk2 =>
  clear hv h hin hp
  simp only [V.agg, V.cells] at H ⊢
  generalize w0.heap.size = B at H ⊢
  go_enter Tryz.func89, Tryz.ntmps89
  go_wp2_with (go_at_call 12; (with_reducible refine (H.out _ (below_alloc _ _)).mono ?_); rintro x w1 ⟨rfl, h1⟩; have H1 := Lib.hid h1; clear h1)
  go_end0
  exact ⟨rfl, H1.out⟩
set_option maxHeartbeats 1000000 in
theorem valuesT_any {ht : Nat → TypeId} {w0 : World} {T : List (Nat × Value)} (hht : ht 3 = 84) (hT : T.length ≤ 1099511627776) (la : Option Addr) (ll lc : Nat) (L : Nat → V) (hv : ∀ i, i < ll → TellOk ht w0 T (L i)) (X : Nat → Prop) (wx : World) (p : List (Nat × Value)) (W : World) (hlc : ll ≤ lc ∧ lc ≤ maxLen)
    (h : ∀ i, i < ll → (∃ b o, la = some ⟨b, o, none⟩ ∧ At w0 b (o + i * 8) (L i).cells) ∧ (L i).In w0) (hb : BT ht w0 w0.heap.size T X wx p W) (hp : p ++ toldVs la ll lc L <+: T) :
    Calls Tryz.prog 11 #[.pointer (some ⟨w0.heap.size, 0, none⟩), .slice la ll lc] W fun e w' => e = .returned (.tuple #[]) ∧ BT ht w0 w0.heap.size T X wx (p ++ toldVs la ll lc L) w' := by
  unfold maxLen at hlc
  have HP : Hid (p ++ (joinL ll (fun i => toldV (L i)) ++ [(3, .slice la ll lc)]) <+: T) := Lib.hid hp
  have HK := Lib.hid (fun W' (ok : BT ht w0 w0.heap.size T X wx (p ++ joinL ll (fun i => toldV (L i))) W') => keepValue_bt hht hT ok (pre_z HP.out))
  have HE : Hid (p ++ toldVs la ll lc L = (p ++ joinL ll (fun i => toldV (L i))) ++ [(3, .slice la ll lc)]) := Lib.hid (by rw [List.append_assoc]; rfl)
  rw [HE.out]
  have OK0 := Lib.hid hb
  have H := Lib.hid h
  have H2 := Lib.hid hv
  clear h hv hb hp hT
  go_enter Tryz.func11, Tryz.ntmps11
  go_wp2_with fail
  go_loopw [4] (fun i wr => ∃ k : Nat, k ≤ ll ∧ i = .int .i64 k ∧ BT ht w0 w0.heap.size T X wx (p ++ joinL k (fun i => toldV (L i))) wr) (fun i _ => ll - (intOf i).toNat)
  case atStart => exact ⟨0, Nat.zero_le _, rfl, by have := OK0.out; simpa [joinL] using this⟩
  case round =>
    clear OK0
    obtain ⟨k, hk, rfl, ok⟩ := hrel
    by_cases hlt : k < ll
    · obtain ⟨⟨b2, o2, he, hat⟩, hin⟩ := H.out k hlt
      obtain rfl := he
      have hx := H2.out k hlt
      have hat := At.below (ok.low) hat
      have HX := Lib.hid (fun W' (hb : Below wr.heap.size wr W') => (fun ok => hx _ _ _ _ ok hin (pre_k hlt HP.out)) (ok.below hb))
      have HJ : Hid ((p ++ joinL k (fun i => toldV (L i))) ++ toldV (L k) = p ++ joinL (k + 1) (fun i => toldV (L i))) := Lib.hid (by rw [List.append_assoc]; rfl)
      rw [HJ.out] at HX
      generalize L k = v at hat HX hin
      cases v with
      | leaf => exact hin.elim
      | mk k2 n2 s2 la2 ll2 lc2 L2 fa2 fl2 fc2 fn2 F2 e2 key2 hk2 =>
      obtain ⟨c0, c1, c2, c3, c4, c5, c6, c7⟩ := at8 hat
      clear hx hat hin ok HJ
      simp only [V.agg, V.cells] at HX
      have hlt' : (k : Int) < (ll : Int) := by omega
      have hk0 : (0 : Int) ≤ (k : Int) := by omega
      generalize w0.heap.size = B at HX HK H ⊢
      go_wp2_with (go_at_call 12; (with_reducible refine (HX.out _ (by first | exact Below.refl _ _ | exact (Below.refl _ _).drew)).mono ?_); rintro x w1 ⟨rfl, h1⟩; have H1 := Lib.hid h1; clear h1)
      refine ⟨⟨k + 1, hlt, by go_num, H1.out⟩, by simp [intOf]; omega⟩
    · obtain rfl : k = ll := by omega
      have HKK := Lib.hid (HK.out _ ok)
      clear ok
      go_wp2_with (go_at_call 26; (with_reducible refine HKK.out.mono ?_); rintro x w1 ⟨rfl, h1⟩; have H1 := Lib.hid h1; clear h1)
      go_end0
      exact ⟨rfl, H1.out⟩
set_option maxHeartbeats 1000000 in
theorem fieldsT_any {ht : Nat → TypeId} {w0 : World} {T : List (Nat × Value)} (hht : ht 4 = 95) (hT : T.length ≤ 1099511627776) (la : Option Addr) (ll lc : Nat) (fn : Nat → ByteArray) (L : Nat → V) (hv : ∀ i, i < ll → TellOk ht w0 T (L i)) (X : Nat → Prop) (wx : World) (p : List (Nat × Value)) (W : World) (hlc : ll ≤ lc ∧ lc ≤ maxLen)
    (h : ∀ i, i < ll → (∃ b o, la = some ⟨b, o, none⟩ ∧ At w0 b (o + i * 9) (.string (fn i) :: (L i).cells)) ∧ (fn i).size ≤ maxLen ∧ (L i).In w0) (hb : BT ht w0 w0.heap.size T X wx p W) (hp : p ++ toldFs la ll lc L <+: T) :
    Calls Tryz.prog 27 #[.pointer (some ⟨w0.heap.size, 0, none⟩), .slice la ll lc] W fun e w' => e = .returned (.tuple #[]) ∧ BT ht w0 w0.heap.size T X wx (p ++ toldFs la ll lc L) w' := by
  unfold maxLen at hlc
  have HP : Hid (p ++ (joinL ll (fun i => toldV (L i)) ++ [(4, .slice la ll lc)]) <+: T) := Lib.hid hp
  have HK := Lib.hid (fun W' (ok : BT ht w0 w0.heap.size T X wx (p ++ joinL ll (fun i => toldV (L i))) W') => keepField_bt hht hT ok (pre_z HP.out))
  have HE : Hid (p ++ toldFs la ll lc L = (p ++ joinL ll (fun i => toldV (L i))) ++ [(4, .slice la ll lc)]) := Lib.hid (by rw [List.append_assoc]; rfl)
  rw [HE.out]
  have OK0 := Lib.hid hb
  have H := Lib.hid h
  have H2 := Lib.hid hv
  clear h hv hb hp hT
  go_enter Tryz.func27, Tryz.ntmps27
  go_wp2_with fail
  go_loopw [4] (fun i wr => ∃ k : Nat, k ≤ ll ∧ i = .int .i64 k ∧ BT ht w0 w0.heap.size T X wx (p ++ joinL k (fun i => toldV (L i))) wr) (fun i _ => ll - (intOf i).toNat)
  case atStart => exact ⟨0, Nat.zero_le _, rfl, by have := OK0.out; simpa [joinL] using this⟩
  case round =>
    clear OK0
    obtain ⟨k, hk, rfl, ok⟩ := hrel
    by_cases hlt : k < ll
    · obtain ⟨⟨b2, o2, he, hat⟩, -, hin⟩ := H.out k hlt
      obtain rfl := he
      have hx := H2.out k hlt
      have hat := At.below (ok.low) hat
      have HX := Lib.hid (fun W' (hb : Below wr.heap.size wr W') => (fun ok => fieldT_any (fn k) _ hx _ _ _ _ ok hin (pre_k hlt HP.out)) (ok.below hb))
      have HJ : Hid ((p ++ joinL k (fun i => toldV (L i))) ++ toldV (L k) = p ++ joinL (k + 1) (fun i => toldV (L i))) := Lib.hid (by rw [List.append_assoc]; rfl)
      rw [HJ.out] at HX
      generalize fn k = nm at hat HX
      generalize L k = v at hat HX hin
      cases v with
      | leaf => exact hin.elim
      | mk k2 n2 s2 la2 ll2 lc2 L2 fa2 fl2 fc2 fn2 F2 e2 key2 hk2 =>
      obtain ⟨c0, c1, c2, c3, c4, c5, c6, c7, c8⟩ := at9 hat
      clear hx hat hin ok HJ
      simp only [V.agg, V.cells] at HX
      have hlt' : (k : Int) < (ll : Int) := by omega
      have hk0 : (0 : Int) ≤ (k : Int) := by omega
      generalize w0.heap.size = B at HX HK H ⊢
      go_wp2_with (go_at_call 89; (with_reducible refine (HX.out _ (by first | exact Below.refl _ _ | exact (Below.refl _ _).drew)).mono ?_); rintro x w1 ⟨rfl, h1⟩; have H1 := Lib.hid h1; clear h1)
      refine ⟨⟨k + 1, hlt, by go_num, H1.out⟩, by simp [intOf]; omega⟩
    · obtain rfl : k = ll := by omega
      have HKK := Lib.hid (HK.out _ ok)
      clear ok
      go_wp2_with (go_at_call 90; (with_reducible refine HKK.out.mono ?_); rintro x w1 ⟨rfl, h1⟩; have H1 := Lib.hid h1; clear h1)
      go_end0
      exact ⟨rfl, H1.out⟩
set_option maxHeartbeats 1000000 in
theorem valueT_any {ht : Nat → TypeId} {w0 : World} {T : List (Nat × Value)} (h3 : ht 3 = 84) (h4 : ht 4 = 95) (hT : T.length ≤ 1099511627776) : ∀ v : V, TellOk ht w0 T v := by
  intro v
  induction v with
  | leaf => exact fun X wx p W _ h _ => h.elim
  | mk k n s la ll lc L fa fl fc fn F e key hk ihL ihF =>
  intro X wx p W hb h hp
  obtain ⟨-, -, -, -, -, hl1, hf1, hL, hF⟩ := h
  rw [toldV_mk] at hp ⊢
  rw [← List.append_assoc]
  have HL := Lib.hid (fun W' (hbb : Below (W.alloc (.cells #[.int .u8 k, .int .i64 n, .string s, .slice la ll lc, .slice fa fl fc, .int .u8 e, .string key, .bool hk] 30)).heap.size (W.alloc (.cells #[.int .u8 k, .int .i64 n, .string s, .slice la ll lc, .slice fa fl fc, .int .u8 e, .string key, .bool hk] 30)) W') => valuesT_any h3 hT la ll lc L (fun i _ => ihL i) _ _ p W' hl1 hL ((hb.push (.cells #[.int .u8 k, .int .i64 n, .string s, .slice la ll lc, .slice fa fl fc, .int .u8 e, .string key, .bool hk] 30)).below hbb) (pre_a hp))
  have HF := Lib.hid (fun W' (ok : BT ht w0 w0.heap.size T (fun g => X g ∨ g = W.heap.size) (W.alloc (.cells #[.int .u8 k, .int .i64 n, .string s, .slice la ll lc, .slice fa fl fc, .int .u8 e, .string key, .bool hk] 30)) (p ++ toldVs la ll lc L) W') => fieldsT_any h4 hT fa fl fc fn F (fun i _ => ihF i) _ _ (p ++ toldVs la ll lc L) W' hf1 hF ok (by rwa [List.append_assoc]))
  have HC := Lib.hid (fun W' q (ok : BT ht w0 w0.heap.size T (fun g => X g ∨ g = W.heap.size) (W.alloc (.cells #[.int .u8 k, .int .i64 n, .string s, .slice la ll lc, .slice fa fl fc, .int .u8 e, .string key, .bool hk] 30)) q W') => show W'.cell? ⟨W.heap.size, 4, none⟩ = some (.slice fa fl fc) from by rw [ok.cell]; simp)
  have HP := Lib.hid (fun W' q (ok : BT ht w0 w0.heap.size T (fun g => X g ∨ g = W.heap.size) (W.alloc (.cells #[.int .u8 k, .int .i64 n, .string s, .slice la ll lc, .slice fa fl fc, .int .u8 e, .string key, .bool hk] 30)) q W') => hb.pop ok)
  clear hL hF ihL ihF hl1 hf1 hb hp hT
  simp only [V.agg, V.cells]
  generalize toldVs la ll lc L = t1 at HL HF HC HP ⊢
  generalize toldFs fa fl fc F = t2 at HF ⊢
  generalize w0.heap.size = B at HL HF HC HP ⊢
  go_enter Tryz.func12, Tryz.ntmps12
  go_wp2_with (first
    | (go_at_call 11; (with_reducible refine (HL.out _ (by first | exact Below.refl _ _ | exact (Below.refl _ _).drew)).mono ?_); rintro x w1 ⟨rfl, h1⟩; have H1 := Lib.hid h1; have c4 := HC.out _ _ h1; clear h1)
    | (go_at_call 27; (with_reducible refine (HF.out _ (by first | exact H1.out | exact H1.out.below (Below.refl _ _).drew)).mono ?_); rintro x w2 ⟨rfl, h2⟩; have H2 := Lib.hid h2; clear h2))
  go_end0
  exact ⟨rfl, HP.out _ _ H2.out⟩
end Go.Proofs.YtmhemajcnfcdmaaGreatDoor.Bk
