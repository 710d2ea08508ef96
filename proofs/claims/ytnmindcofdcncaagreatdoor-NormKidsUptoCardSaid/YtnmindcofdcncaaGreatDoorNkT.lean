/-
  Walks: keys.take answers 'keyM': the key of a child, and the keys that are taken behind it.
  Conditions: the value lies in memory, its key takes no more than the reach; the map holds the keys that were taken.
-/
import Derived.Test.YtnmindcofdcncaaGreatDoorNkD
import Derived.Maps.OwnSet
import Derived.StringKeys
import Derived.Deep.QuietTactic
namespace Go.Proofs.YtnmindcofdcncaaGreatDoor
set_option linter.unusedVariables false
set_option linter.unusedSimpArgs false
open Go.RowKit Go.Deep Go.WideShapes
open Go.Maps hiding size
def kKey (key : ByteArray) : ByteArray := ByteArray.append ⟨#[107, 58]⟩ key
def iKey (p : Int) : ByteArray := ByteArray.append ⟨#[105, 58]⟩ ⟨(Lib.itoa p).toArray⟩
def keyM (seen : List (List UInt8)) : V → Int → ByteArray × List (List UInt8)
  | .leaf, p => (iKey p, seen)
  | .mk k _ _ _ _ _ _ _ _ _ _ _ _ key hk, p => if k = 6 ∧ hk = true ∧ (kKey key).data.toList ∉ seen then (kKey key, seen ++ [(kKey key).data.toList]) else (iKey p, seen)
def Sm (seen : List (List UInt8)) : DataW Unit := setOf (.agg []) (seen.map Lit.string)
theorem law9 : Keyed Tryz.prog 9 := string_keyed Tryz.underlying9
theorem zero61 (w : World) : (zeroValue 87).run Tryz.prog w = .ok (.agg #[]) w := by kernel_rfl
theorem any_lit (x : List UInt8) : ∀ l : List (List UInt8), l.any ((fun y : Lit => y.sameKey (.string x)) ∘ Lit.string) = decide (x ∈ l)
  | [] => by simp
  | a :: r => by
    rw [List.any_cons, any_lit x r]
    have : ((fun y : Lit => y.sameKey (.string x)) ∘ Lit.string) a = decide (x = a) := by
      have : ((fun y : Lit => y.sameKey (.string x)) ∘ Lit.string) a = (a == x) := by simp [Function.comp, Lit.sameKey]
      rw [this]
      by_cases e : x = a
      · subst e; simp
      · have : ¬ a = x := fun h => e h.symm
        simp [e, this]
    rw [this]
    by_cases e : x = a <;> simp [e]
theorem has_Sm (seen : List (List UInt8)) (x : List UInt8) : Maps.has (Sm seen) (.string x) = decide (x ∈ seen) := by
  unfold Sm
  rw [has_setOf _ _ _ (fun y hy => by obtain ⟨_, _, rfl⟩ := List.mem_map.1 hy; trivial), List.any_map]
  exact any_lit x _
theorem Sm_snoc (seen : List (List UInt8)) (x : List UInt8) : Sm (seen ++ [x]) = (Sm seen).put (.string x) (.agg []) := by
  unfold Sm
  rw [List.map_append, List.map_singleton, setOf_snoc]
theorem key_lit (s : ByteArray) (h : s.size ≤ maxLen) : keyOf Tryz.prog 9 (.string s) = some (.string s.data.toList) := WideMaps.keyOf_string_mk Tryz.underlying9 h
theorem grown_of_below {w w' : World} (hb : Below w.heap.size w w') (r : Option Nat) : w.grownBy w' r := ⟨hb.os, hb.tape, hb.output, hb.size, fun k hk _ => hb.block k hk⟩
theorem grown_trans {a b c : World} {row : Option Nat} (h : a.grownBy b row) (k : b.grownBy c row) : a.grownBy c row :=
  ⟨k.os.trans h.os, k.tape.trans h.tape, k.output.trans h.output, Nat.le_trans h.size k.size, fun i hi hr => (k.block i (Nat.lt_of_lt_of_le hi h.size) hr).trans (h.block i hi hr)⟩
def TakePost (W : World) (m n : Nat) (r : ByteArray × List (List UInt8)) (x : Ending) (w' : World) : Prop :=
  x = .returned (.string r.1) ∧ w'.ownsMap Tryz.prog 9 (unitElem (H := Unit)) m (n + 1) (Sm r.2) ∧ W.grownBy w' (some m)
set_option maxRecDepth 100000 in
set_option maxHeartbeats 2000000 in
theorem take_any (b o : Nat) (v : V) (pl : Int) (m n : Nat) (seen : List (List UInt8)) (W : World) (h : v.In W) (hat : At W b o v.cells) (hkey : ∀ k n s la ll lc L fa fl fc fn F e key hk, v = .mk k n s la ll lc L fa fl fc fn F e key hk → key.size ≤ 140737488351232)
    (hp : -9223372036854775808 ≤ pl ∧ pl ≤ 9223372036854775807) (ht : Tabs W) (hown : W.ownsMap Tryz.prog 9 (unitElem (H := Unit)) m n (Sm seen)) (hn : n < maxLen) :
    Calls Tryz.prog 18 #[.map (some m), .pointer (some ⟨b, o, none⟩), .int .i64 pl] W (TakePost W m n (keyM seen v pl)) := by
  cases v with
  | leaf => exact h.elim
  | mk k n' s la ll lc L fa fl fc fn F e key hk =>
  have hks := hkey k n' s la ll lc L fa fl fc fn F e key hk rfl
  obtain ⟨c0, c1, c2, c3, c4, c5, c6, c7⟩ := at8 hat
  have HI : Hid (∀ W', Below W.heap.size W W' → Calls Tryz.prog 83 #[.int .i64 pl] W' fun e w' => e = .returned (.string ⟨(Lib.itoa pl).toArray⟩) ∧ Below W'.heap.size W' w') := fun W' hb =>
    (Tryz.strconv_Itoa pl hp.1 hp.2 W' (tab_below ht.2.2 hb)).mono fun e w' ⟨he, k, os, hw⟩ => ⟨he, by rw [hw]; exact Lib.below_grow _ _ (Nat.le_refl _) _ _⟩
  have hlit := key_lit (kKey key) (by unfold kKey; have : (ByteArray.append ⟨#[107, 58]⟩ key).size = 2 + key.size := by simp [ByteArray.size_append]; exact rfl
                                      unfold maxLen; omega)
  have Q0 : Hid (∀ w', Below W.heap.size W w' → ¬ (k = 6 ∧ hk = true ∧ (kKey key).data.toList ∉ seen) → TakePost W m n (keyM seen (.mk k n' s la ll lc L fa fl fc fn F e key hk) pl) (.returned (.string (iKey pl))) w') := fun w' hb hc => by
    have hg : W.grownBy w' (some m) := grown_of_below hb _
    have e : keyM seen (.mk k n' s la ll lc L fa fl fc fn F e key hk) pl = (iKey pl, seen) := by rw [keyM, if_neg hc]
    rw [e]
    exact ⟨rfl, (hown.kept (grown_of_below hb none) (by simp)).mono (Nat.le_succ _), hg⟩
  have Q1 : Hid (∀ O w', w'.ownsMap Tryz.prog 9 (unitElem (H := Unit)) m (n + 1) ((Sm seen).put (.string (kKey key).data.toList) (.agg [])) → (W.alloc O).grownBy w' (some m) → (k = 6 ∧ hk = true ∧ (kKey key).data.toList ∉ seen) → TakePost W m n (keyM seen (.mk k n' s la ll lc L fa fl fc fn F e key hk) pl) (.returned (.string (kKey key))) w') := fun O w' h1 h2 hc => by
    have e : keyM seen (.mk k n' s la ll lc L fa fl fc fn F e key hk) pl = (kKey key, seen ++ [(kKey key).data.toList]) := by rw [keyM, if_pos hc]
    rw [e]
    exact ⟨rfl, by rw [Sm_snoc]; exact h1, grown_trans (World.grownBy_alloc W O (some m)) h2⟩
  clear h hat hkey ht
  have hK : ByteArray.append ⟨#[107, 58]⟩ key = kKey key := rfl
  have hil := itoa_size pl hp
  have hI : ByteArray.append ⟨#[105, 58]⟩ ⟨(Lib.itoa pl).toArray⟩ = iKey pl := rfl
  generalize (⟨(Lib.itoa pl).toArray⟩ : ByteArray) = d at HI hI hil
  by_cases h6 : k = 6
  · subst h6
    cases hk with
    | false =>
      have Q := Lib.hid (fun w' hb => Q0.out w' hb (by simp))
      clear Q0 Q1
      generalize TakePost W m n (keyM seen _ pl) = R at Q ⊢
      go_enter Tryz.func18, Tryz.ntmps18
      go_wp2_with (go_at_call 83; (with_reducible refine (HI.out _ (Below.refl _ _)).mono ?_); rintro x w1 ⟨rfl, hb1⟩; have HB1 := Lib.hid hb1; clear hb1)
      rw [← hI] at Q
      exact Q.out _ HB1.out
    | true =>
      by_cases hc : (kKey key).data.toList ∈ seen
      · have hq : Maps.has (Sm seen) (.string (kKey key).data.toList) = true := by rw [has_Sm]; simp [hc]
        have Q := Lib.hid (fun w' hb => Q0.out w' hb (by simp [hc]))
        clear Q0 Q1 hc
        generalize TakePost W m n (keyM seen _ pl) = R at Q ⊢
        go_enter Tryz.func18, Tryz.ntmps18
        go_wp2_with (first
          | (at_lookup; refine wpList_lookup_own_unit _ rfl _ _ 61 rfl 9 87 law9 Tryz.underlying61 (zero61 _) m n (Sm seen) rfl hown (.string (kKey key)) _ rfl hlit ?_)
          | (go_at_call 83; (with_reducible refine (HI.out _ (below_alloc _ _)).mono ?_); rintro x w1 ⟨rfl, hb1⟩; have HB1 := Lib.hid hb1; clear hb1)
          | go_in)
        rw [← hI] at Q
        exact Q.out _ ((below_alloc W _).trans (HB1.out.mono (by simp)))
      · have hq : Maps.has (Sm seen) (.string (kKey key).data.toList) = false := by rw [has_Sm]; simp [hc]
        have Q := Lib.hid (fun O w' h1 h2 => Q1.out O w' h1 h2 ⟨rfl, rfl, hc⟩)
        clear Q0 Q1 hc
        generalize TakePost W m n (keyM seen _ pl) = R at Q ⊢
        go_enter Tryz.func18, Tryz.ntmps18
        go_wp2_with (first
          | (at_lookup; refine wpList_lookup_own_unit _ rfl _ _ 61 rfl 9 87 law9 Tryz.underlying61 (zero61 _) m n (Sm seen) rfl hown (.string (kKey key)) _ rfl hlit ?_)
          | (at_mapUpdate; refine wpList_mapUpdate_own _ rfl _ _ _ 61 rfl 9 87 law9 Tryz.underlying61 (unitElem (H := Unit)) m n (Sm seen) rfl (hown.alloc _) hn _ _ _ rfl rfl hlit _ [] unitElem_mk ?_; intro w1 hown1 hgrow1)
          | go_in)
        exact Q.out _ _ hown1 hgrow1
  · have h6' : (k == 6) = false := by simp [h6]
    have Q := Lib.hid (fun w' hb => Q0.out w' hb (by simp [h6]))
    clear Q0 Q1
    generalize TakePost W m n (keyM seen _ pl) = R at Q ⊢
    go_enter Tryz.func18, Tryz.ntmps18
    go_wp2_with (go_at_call 83; (with_reducible refine (HI.out _ (Below.refl _ _)).mono ?_); rintro x w1 ⟨rfl, hb1⟩; have HB1 := Lib.hid hb1; clear hb1)
    rw [← hI] at Q
    exact Q.out _ HB1.out
end Go.Proofs.YtnmindcofdcncaaGreatDoor
