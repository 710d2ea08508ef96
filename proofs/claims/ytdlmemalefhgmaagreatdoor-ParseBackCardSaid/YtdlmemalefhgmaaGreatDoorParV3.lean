/-
  Walks: values' texts, read: what begins with a text, the end of a word. Of texts without bytes above 127.
  Conditions: the reader lies as 'RD' says; its words are at most 65536.
  Walks: values' texts, read: a word, a value of one word.
  Conditions: the reader lies as 'RD' says; its words are at most 65536.
  Walks: values' texts, read: a value of one word.
  Conditions: the reader lies as 'RD' says; its words are at most 65536.
-/
import Derived.Test.YtdlmemalefhgmaaGreatDoorParPa
import Derived.Test.YtdlmemalefhgmaaGreatDoorShelfV
import Derived.Test.YtdlmemalefhgmaaGreatDoorParIx
import Derived.IntWalk
namespace Go.Proofs.YtdlmemalefhgmaaGreatDoor
set_option linter.unusedVariables false
set_option linter.unusedSimpArgs false
open Go.RowKit G

/-- The reader of a value's text, made in W1: what has not been taken, how many parts. -/
structure TD (W1 : World) (r : Str) (k : Nat) (W : World) : Prop where
  at_ : W.heap[W1.heap.size]? = some (.cells #[.string ⟨r.toArray⟩, .int .i64 k] 107 (0, 0))
  low : Below W1.heap.size W1 W
section
variable {W1 : World} {r : Str} {k : Nat} {W W' : World}
theorem TD.lt (h : TD W1 r k W) : W1.heap.size < W.heap.size := tr_lt_of_block h.at_
theorem TD.cells (h : TD W1 r k W) : (W.cell? ⟨W1.heap.size, 0, none⟩ = some (.string ⟨r.toArray⟩) ∧ W.cell? ⟨W1.heap.size, 1, none⟩ = some (.int .i64 k)) ∧ W.frozen? ⟨W1.heap.size, 0, none⟩ = false ∧ W.frozen? ⟨W1.heap.size, 1, none⟩ = false := by
  have h := h.at_
  refine ⟨⟨?_, ?_⟩, Lib.frozen_of_heap h 0, Lib.frozen_of_heap h 1⟩ <;> (rw [Lib.cell_of_heap h]; rfl)
theorem TD.keep (h : TD W1 r k W) (hb : Below W.heap.size W W') : TD W1 r k W' := ⟨(hb.block _ h.lt).trans h.at_, h.low.trans (hb.mono h.low.size)⟩
theorem TD.drew (h : TD W1 r k W) : TD W1 r k W.drew := h.keep (Below.refl _ _).drew
theorem TD.drewN (h : TD W1 r k W) (n : Nat) : TD W1 r k (W.drewN n) := h.keep (below_drewNP _ _)
theorem TD.alloc (h : TD W1 r k W) (o : Obj) : TD W1 r k (W.alloc o) := h.keep ((Below.refl _ _).alloc (Nat.le_refl _) _)
theorem TD.setR (h : TD W1 r k W) (r' : Str) : TD W1 r' k (W.setCell ⟨W1.heap.size, 0, none⟩ (.string ⟨r'.toArray⟩)) := by
  refine ⟨?_, h.low.setCell (p := ⟨W1.heap.size, 0, none⟩) (Nat.le_refl _) _⟩
  simp [World.setCell, Array.getElem?_modify, h.at_]
theorem TD.setK (h : TD W1 r k W) (k' : Nat) : TD W1 r k' (W.setCell ⟨W1.heap.size, 1, none⟩ (.int .i64 k')) := by
  refine ⟨?_, h.low.setCell (p := ⟨W1.heap.size, 1, none⟩) (Nat.le_refl _) _⟩
  simp [World.setCell, Array.getElem?_modify, h.at_]
theorem TD.setN {g : Nat} (h : TD W1 r k W) (hg : W1.heap.size < g) (q : Nat) (v : Value) : TD W1 r k (W.setCell ⟨g, q, none⟩ v) :=
  ⟨(Below.heap_setCell _ _ _ _ (by show W1.heap.size ≠ g; omega)).trans h.at_, h.low.setCell (p := ⟨g, q, none⟩) (Nat.le_of_lt hg) v⟩
theorem TD.put {g : Nat} (h : TD W1 r k W) (p : Put g W W') (hg : W1.heap.size < g) : TD W1 r k W' :=
  ⟨(p.block _ (by omega)).trans h.at_, h.low.trans ⟨p.os, p.tape, p.output, Nat.le_of_eq p.size.symm, fun b hb => p.block b (by omega)⟩⟩
theorem TD.row {row : Option Nat} (h : TD W1 r k W) (g : W.grownBy W' row) (hr : ∀ q, row = some q → W1.heap.size < q) : TD W1 r k W' :=
  ⟨(g.block _ h.lt (by intro e; have := hr _ e.symm; omega)).trans h.at_, h.low.grown g h.low.size (fun q e => Nat.le_of_lt (hr q e))⟩
end
/-- (Nothing is asked of the bytes.) -/
def Asc (_ : Str) : Prop := True
theorem Asc.drop {r : Str} (h : Asc r) (n : Nat) : Asc (r.drop n) := h
theorem trim_eq (r p : Str) : Lib.trimPrefix r p = if Lib.hasPrefix r p then r.drop p.length else r := rfl
theorem Asc.trim {r : Str} (h : Asc r) (p : Str) : Asc (Lib.trimPrefix r p) := h
theorem trim_len (r p : Str) : (Lib.trimPrefix r p).length ≤ r.length := by
  rw [trim_eq]; split
  · rw [List.length_drop]; omega
  · omega
theorem ba_list (r : Str) : (⟨r.toArray⟩ : ByteArray).data.toList = r := by simp
theorem ba_size (r : Str) : (⟨r.toArray⟩ : ByteArray).size = r.length := by simp [ByteArray.size]
theorem ba_take (r : Str) (n : Nat) : (⟨r.toArray⟩ : ByteArray).extract 0 n = ⟨(r.take n).toArray⟩ := by
  apply ByteArray.ext
  apply Array.ext'
  rw [Lib.extract_data]
  simp
theorem ba_drop (r : Str) (n : Nat) : (⟨r.toArray⟩ : ByteArray).extract n r.length = ⟨(r.drop n).toArray⟩ := by
  apply ByteArray.ext
  apply Array.ext'
  rw [Lib.extract_data]
  simp
  exact List.take_of_length_le (by simp)

set_option maxRecDepth 100000 in
set_option maxHeartbeats 4000000 in
theorem is_v {W1 : World} {r : Str} {k : Nat} {W : World} (h : TD W1 r k W) (p : ByteArray) :
    Calls Tryz.prog 61 #[rp W1, .string p] W fun e w' => e = .returned (.bool (Lib.hasPrefix r p.data.toList)) ∧ TD W1 (Lib.trimPrefix r p.data.toList) k w' ∧ Gr W1 W w' := by
  have HC : Hid (∀ w, Calls Tryz.prog 82 #[.string ⟨r.toArray⟩, .string p] w fun e w' => e = .returned (.tuple #[.string ⟨(Lib.trimPrefix r p.data.toList).toArray⟩, .bool (Lib.hasPrefix r p.data.toList)]) ∧ w' = w) := Lib.hid (fun w => by
    have := Tryz.strings_CutPrefix ⟨r.toArray⟩ p w
    rwa [ba_list] at this)
  have HT := Lib.hid h
  obtain ⟨⟨c0, c1⟩, f0, f1⟩ := h.cells
  obtain ⟨r2, hr2⟩ : ∃ x, Lib.trimPrefix r p.data.toList = x := ⟨_, rfl⟩
  obtain ⟨b2, hb2⟩ : ∃ x, Lib.hasPrefix r p.data.toList = x := ⟨_, rfl⟩
  rw [hr2, hb2] at HC
  rw [hr2, hb2]
  clear h hr2 hb2
  go_enter Tryz.func61, Tryz.ntmps61
  go_wp2_with (go_at_call 82; (with_reducible refine (HC.out _).mono ?_); rintro e w' ⟨rfl, rfl⟩)
  refine bodyPost_ret (results_tmp Tryz.results61 _ _ _) rfl ?_
  exact ⟨rfl, HT.out.setR r2, (gr_refl W1 _).set 0 _⟩

theorem b92 {c : UInt8} (h : ((c.toNat : Int) == 92) = true) : c = 92 := by
  have h2 : (c.toNat : Int) = 92 := by simpa using h
  exact UInt8.toNat_inj.1 (by show c.toNat = 92; omega)
theorem nb92 {c : UInt8} (h : ((c.toNat : Int) == 92) = false) : ¬ c = 92 := by
  rintro rfl
  revert h
  decide
theorem b34 {c : UInt8} (h : ((c.toNat : Int) == 34) = true) : c = 34 := by
  have h2 : (c.toNat : Int) = 34 := by simpa using h
  exact UInt8.toNat_inj.1 (by show c.toNat = 34; omega)
theorem nb34 {c : UInt8} (h : ((c.toNat : Int) == 34) = false) : ¬ c = 34 := by
  rintro rfl
  revert h
  decide
/-- How many bytes of a text in quotes stand from here on (true: the next byte is passed over). -/
def qN : Bool → Str → Nat
  | _, [] => 0
  | true, _ :: t => 1 + qN false t
  | false, c :: t => if c = 92 then 1 + qN true t else if c = 34 then 1 else 1 + qN false t
theorem qN_le : ∀ (b : Bool) (r : Str), qN b r ≤ r.length
  | _, [] => by simp [qN]
  | true, _ :: t => by have := qN_le false t; simp only [qN, List.length_cons]; omega
  | false, c :: t => by
    have h1 := qN_le false t
    have h2 := qN_le true t
    simp only [qN, List.length_cons]
    split
    · omega
    · split <;> omega
theorem qN_drop {r : Str} {j : Nat} (h : j < r.length) : qN false (r.drop j) = if r[j] = 92 then 1 + qN true (r.drop (j + 1)) else if r[j] = 34 then 1 else 1 + qN false (r.drop (j + 1)) := by
  rw [List.drop_eq_getElem_cons h]; rfl
theorem qN_true {r : Str} {j : Nat} (h : j < r.length) : qN true (r.drop j) = 1 + qN false (r.drop (j + 1)) := by
  rw [List.drop_eq_getElem_cons h]; rfl
set_option maxRecDepth 100000 in
set_option maxHeartbeats 4000000 in
theorem quoted_v (r : Str) (W : World) (hl : r.length ≤ 140737488355328) (h1 : 1 ≤ r.length) :
    Calls Tryz.prog 122 #[.string ⟨r.toArray⟩] W fun e w' => e = .returned (.int .i64 (1 + qN false (r.drop 1) : Nat)) ∧ w' = W := by
  obtain ⟨N, hN⟩ : ∃ N, 1 + qN false (r.drop 1) = N := ⟨_, rfl⟩
  rw [hN]
  have hsz := ba_size r
  obtain ⟨s, hs⟩ : ∃ s : ByteArray, (⟨r.toArray⟩ : ByteArray) = s := ⟨_, rfl⟩
  have hget : ∀ j (hj : j < r.length) (hj2 : j < s.size), s[j]'hj2 = r[j] := fun j hj hj2 => by subst hs; rfl
  rw [hs] at hsz
  rw [hs]
  have HN := Lib.hid hN
  have HG := Lib.hid hget
  clear hN hs hget
  go_enter Tryz.func122, Tryz.ntmps122
  go_wp2
  go_loopw [3] (fun i wr => ∃ j : Nat, i = .int .i64 j ∧ j ≤ r.length + 1 ∧ wr = W ∧ (if j ≤ r.length then j + qN false (r.drop j) else r.length) = N) (fun i _ => r.length + 2 - (intOf i).toNat)
  case atStart => exact ⟨1, rfl, by omega, rfl, by rw [if_pos h1]; exact HN.out⟩
  case round =>
    obtain ⟨j, rfl, hj, rfl, hinv⟩ := hrel
    by_cases hlt : j < r.length
    · have g1 : (j : Int) < (s.size : Int) := by omega
      have g0 : (0 : Int) ≤ (j : Int) := by omega
      have hb := HG.out j hlt (by omega)
      rw [if_pos (by omega), qN_drop hlt] at hinv
      have HI := Lib.hid hinv
      clear hinv
      go_wp2
      · rename_i h92
        have h9 := b92 h92
        have hi := HI.out
        rw [if_pos h9] at hi
        refine ⟨⟨j + 2, by go_num, by omega, trivial, ?_⟩, by simp [intOf]; omega⟩
        by_cases h2 : j + 1 < r.length
        · rw [if_pos (by omega)]
          rw [qN_true h2, show r.drop (j + 1 + 1) = r.drop (j + 2) from rfl] at hi
          omega
        · rw [if_neg (by omega)]
          rw [List.drop_eq_nil_of_le (by omega)] at hi
          simp [qN] at hi
          omega
      · rename_i h92 h34
        have h9 := nb92 h92
        have h3 := b34 h34
        have hi := HI.out
        rw [if_neg h9, if_pos h3] at hi
        go_ret
        exact ⟨by rw [← hi]; go_num, rfl⟩
      · rename_i h92 h34
        have h9 := nb92 h92
        have h3 := nb34 h34
        have hi := HI.out
        rw [if_neg h9, if_neg h3] at hi
        refine ⟨⟨j + 1, by go_num, by omega, trivial, ?_⟩, by simp [intOf]; omega⟩
        rw [if_pos (by omega)]
        omega
    · have g1 : ¬ (j : Int) < (s.size : Int) := by omega
      have hN2 : N = r.length := by
        by_cases h2 : j ≤ r.length
        · rw [if_pos h2, List.drop_eq_nil_of_le (by omega)] at hinv
          simp [qN] at hinv
          omega
        · rw [if_neg h2] at hinv
          exact hinv.symm
      clear hinv
      go_wp2
      go_ret
      exact ⟨rfl, rfl⟩
theorem indexAny_le (cs : Str) : ∀ l : Str, Lib.indexAny l cs ≤ l.length
  | [] => by simp [Lib.indexAny]
  | b :: l => by
    have := indexAny_le cs l
    simp only [Lib.indexAny, List.length_cons]
    split
    · omega
    · split <;> omega
/-- How many bytes stand ahead of what can stand behind a value's word. -/
def firstN (r : Str) : Nat := if Lib.hasPrefix r [34] = true then 1 + qN false (r.drop 1) else if 0 ≤ Lib.indexAny r [32, 93, 125] then (Lib.indexAny r [32, 93, 125]).toNat else r.length
theorem pre_ne {r : Str} {c : UInt8} (h : Lib.hasPrefix r [c] = true) : 1 ≤ r.length := by
  cases r with
  | nil => simp [Lib.hasPrefix] at h
  | cons a t => simp
theorem firstN_le (r : Str) : firstN r ≤ r.length := by
  unfold firstN
  split
  · rename_i h
    have h1 := pre_ne h
    have h2 := qN_le false (r.drop 1)
    rw [List.length_drop] at h2
    omega
  · have := indexAny_le [32, 93, 125] r
    split <;> omega
set_option maxRecDepth 100000 in
set_option maxHeartbeats 4000000 in
theorem first_v (r : Str) (W : World) (ha : Asc r) (hl : r.length ≤ 140737488355328) :
    Calls Tryz.prog 105 #[.string ⟨r.toArray⟩] W fun e w' => e = .returned (.int .i64 (firstN r : Nat)) ∧ Below W.heap.size W w' := by
  have HH := Lib.hid (Tryz.strings_HasPrefix ⟨r.toArray⟩ ⟨#[34]⟩)
  have HI := Lib.hid (index_any ⟨r.toArray⟩ W (by rw [ba_size]; omega))
  have hsz := ba_size r
  have hq := firstN_le r
  by_cases hp : Lib.hasPrefix r [34] = true
  · have HQ := Lib.hid (quoted_v r W (by omega) (pre_ne hp))
    have hN : firstN r = 1 + qN false (r.drop 1) := by unfold firstN; rw [if_pos hp]
    obtain ⟨N, hNN⟩ : ∃ N, firstN r = N := ⟨_, rfl⟩
    rw [← hN, hNN] at HQ
    rw [hNN]
    have HP : Hid (Lib.hasPrefix (⟨r.toArray⟩ : ByteArray).data.toList (⟨#[34]⟩ : ByteArray).data.toList = true) := Lib.hid (by rw [ba_list]; exact hp)
    clear hp hN hNN hq
    generalize (⟨r.toArray⟩ : ByteArray) = s at HH HI HQ HP hsz ⊢
    go_enter Tryz.func105, Tryz.ntmps105
    go_wp2_with (first
      | (go_at_call 121; (with_reducible refine (HH.out _).mono ?_); rw [HP.out]; rintro e w' ⟨rfl, rfl⟩)
      | (go_at_call 122; (with_reducible refine HQ.out.mono ?_); rintro e w' ⟨rfl, rfl⟩))
    all_goals (try go_ret)
    all_goals exact ⟨rfl, Below.refl _ _⟩
  · have hp2 : Lib.hasPrefix r [34] = false := by simpa using hp
    have HP : Hid (Lib.hasPrefix (⟨r.toArray⟩ : ByteArray).data.toList (⟨#[34]⟩ : ByteArray).data.toList = false) := Lib.hid (by rw [ba_list]; exact hp2)
    have hx : Lib.indexAny (⟨r.toArray⟩ : ByteArray).data.toList [32, 93, 125] = Lib.indexAny r [32, 93, 125] := by rw [ba_list]
    obtain ⟨x, hxx⟩ : ∃ x, Lib.indexAny r [32, 93, 125] = x := ⟨_, rfl⟩
    rw [hx, hxx] at HI
    have hN : firstN r = if 0 ≤ x then x.toNat else r.length := by unfold firstN; rw [if_neg hp, hxx]
    obtain ⟨N, hNN⟩ : ∃ N, firstN r = N := ⟨_, rfl⟩
    rw [hNN] at hN
    rw [hNN]
    have HN := Lib.hid hN
    clear hp hp2 hx hxx hN hNN hq
    generalize (⟨r.toArray⟩ : ByteArray) = s at HH HI HP hsz ⊢
    by_cases hx0 : 0 ≤ x
    · go_enter Tryz.func105, Tryz.ntmps105
      go_wp2_with (first
        | (go_at_call 121; (with_reducible refine (HH.out _).mono ?_); rw [HP.out]; rintro e w' ⟨rfl, rfl⟩)
        | (go_at_call 123; (with_reducible refine HI.out.mono ?_); rintro e w' ⟨rfl, hb⟩))
      have hN2 : x = (N : Int) := by rw [HN.out, if_pos (by omega)]; omega
      all_goals (try go_ret)
      exact ⟨by rw [← hN2]; rfl, hb⟩
    · go_enter Tryz.func105, Tryz.ntmps105
      go_wp2_with (first
        | (go_at_call 121; (with_reducible refine (HH.out _).mono ?_); rw [HP.out]; rintro e w' ⟨rfl, rfl⟩)
        | (go_at_call 123; (with_reducible refine HI.out.mono ?_); rintro e w' ⟨rfl, hb⟩))
      have hN2 : r.length = N := by rw [HN.out, if_neg (by omega)]
      all_goals (try go_ret)
      exact ⟨by rw [← hN2]; rfl, hb⟩
end Go.Proofs.YtdlmemalefhgmaaGreatDoor
namespace Go.Proofs.YtdlmemalefhgmaaGreatDoor
set_option linter.unusedVariables false
set_option linter.unusedSimpArgs false
open Go.RowKit G

/-- The words of a text; of one that is too long, none. -/
def lexL (l : Str) : LX.Res := if l.length ≤ 65536 then LX.lex 0 l else .err 0
theorem lexL_small {l : Str} (h : l.length ≤ 65536) : lexL l = LX.lex 0 l := if_pos h
theorem lexL_ok {l : Str} {ws : List LX.LW} (h : lexL l = .ok ws) : LX.lex 0 l = .ok ws := by
  unfold lexL at h
  split at h
  · exact h
  · cases h
/-- What Words answers: that there is none, in whatever way; or the words. -/
def PostL (r : LX.Res) (W : World) (e : Ending) (w' : World) : Prop := match r with
  | .err _ => (∃ a b : Int, e = .returned (.tuple #[.slice none 0 0, .int .i64 a, .int .i64 b])) ∧ Below W.heap.size W w'
  | .ok ws => PostWords (.ok ws) W e w'
theorem words_l (l : Str) (w : World) (hl : l.length ≤ 140737488355328) (ht : LTabs w) : Calls Tryz.prog 9 #[.string ⟨l.toArray⟩] w (PostL (lexL l) w) := by
  rcases Nat.lt_or_ge 65536 l.length with h | h
  · have : lexL l = .err 0 := if_neg (by omega)
    rw [this]
    refine (words_big ⟨l.toArray⟩ w (by rw [ba_size]; exact h) (by rw [ba_size]; omega)).mono fun e w' ⟨he, hw⟩ => ⟨⟨_, _, he⟩, ?_⟩
    rw [hw]
    exact Below.refl _ _
  · rw [lexL_small h]
    refine (words_any ⟨l.toArray⟩ w (by rw [ba_size]; exact h) ht).mono fun e w' hp => ?_
    rw [ba_list] at hp
    cases hr : LX.lex 0 l with
    | err n =>
      rw [hr] at hp
      exact ⟨⟨_, _, hp.1⟩, hp.2⟩
    | ok ws => rw [hr] at hp; exact hp
/-- The word of chapter 3 that a text begins with, up to what can stand behind a value's word; and what is left. -/
def wordV (r : Str) : Option (LX.LW × Str) := match lexL (r.take (firstN r)) with
  | .ok [w] => some (w, r.drop (firstN r))
  | _ => none
theorem wordV_err {r : Str} {n : Nat} (h : lexL (r.take (firstN r)) = .err n) : wordV r = none := by unfold wordV; rw [h]
theorem wordV_one {r : Str} {w : LX.LW} (h : lexL (r.take (firstN r)) = .ok [w]) : wordV r = some (w, r.drop (firstN r)) := by unfold wordV; rw [h]
theorem wordV_not {r : Str} {ws : List LX.LW} (h : lexL (r.take (firstN r)) = .ok ws) (hl : ¬ ws.length = 1) : wordV r = none := by
  unfold wordV; rw [h]
  match ws, hl with
  | [], _ => rfl
  | [w], hl => exact absurd rfl hl
  | a :: b :: t, _ => rfl
/-- What a call comes to that takes a part of a value's text. -/
def PostV {α : Type} (W1 : World) (W : World) (F : α → Value → World → Prop) (r : Option (α × Str × Nat)) (e : Ending) (W' : World) : Prop :=
  match r with
  | none => e = .panicked [pz] ∧ Gr W1 W W'
  | some (x, r', k') => ∃ v, e = .returned v ∧ F x v W' ∧ TD W1 r' k' W' ∧ Gr W1 W W'
set_option maxRecDepth 100000 in
set_option maxHeartbeats 8000000 in
theorem word_v {W1 : World} {r : Str} {k : Nat} {W : World} (h : TD W1 r k W) (ha : Asc r) (hl : r.length ≤ 140737488355328) (htab : LTabs W1) :
    Calls Tryz.prog 83 #[rp W1] W (PostV W1 W (fun (w : LX.LW) v _ => v = .agg #[.int .u8 (w.k : Nat), .string ⟨w.s.toArray⟩, .int .i64 w.n, .int .i64 (w.line : Nat)]) ((wordV r).map fun p => (p.1, p.2, k))) := by
  obtain ⟨W0, hW0⟩ : ∃ W0, W.alloc (.cells #[.int .u8 0, .string ⟨#[]⟩, .int .i64 0, .int .i64 0] 55) = W0 := ⟨_, rfl⟩
  have hlt := h.lt
  have hr0 : TD W1 r k W0 := by rw [← hW0]; exact h.alloc _
  have hg0 : Gr W1 W W0 := by rw [← hW0]; exact (gr_refl W1 W).alloc _
  have hz0 : W0.heap.size = W.heap.size + 1 := by rw [← hW0]; simp
  have hb0 : W0.heap[W.heap.size]? = some (.cells #[.int .u8 0, .string ⟨#[]⟩, .int .i64 0, .int .i64 0] 55 (0, 0)) := by rw [← hW0]; exact heap_alloc_new _ _
  have HK0 := Lib.hid hb0
  have HR0 := Lib.hid hr0
  obtain ⟨N, hN⟩ : ∃ N, firstN r = N := ⟨_, rfl⟩
  have hNl : N ≤ r.length := by rw [← hN]; exact firstN_le r
  have HF := Lib.hid (first_v r W0 ha hl)
  rw [hN] at HF
  have HW : Hid (∀ w, Below W0.heap.size W0 w → Calls Tryz.prog 9 #[.string ((⟨r.toArray⟩ : ByteArray).extract 0 N)] w (PostL (lexL (r.take N)) w)) := Lib.hid (fun w hb => by
    have := words_l (r.take N) w (by rw [List.length_take]; omega) ((htab.below hr0.low htab.gb).below hb (htab.gb.mono hr0.low.size))
    rw [← ba_take] at this
    exact this)
  have hd := ba_drop r N
  have HD := Lib.hid hd
  have hsz := ba_size r
  obtain ⟨⟨c0, c1⟩, f0, f1⟩ := hr0.cells
  obtain ⟨post, hpost⟩ : ∃ p, PostV W1 W (fun (w : LX.LW) v _ => v = .agg #[.int .u8 (w.k : Nat), .string ⟨w.s.toArray⟩, .int .i64 w.n, .int .i64 (w.line : Nat)]) ((wordV r).map fun p => (p.1, p.2, k)) = p := ⟨_, rfl⟩
  rw [hpost]
  have HB : Hid (∀ w', wordV r = none → Gr W1 W w' → post (.panicked [pz]) w') := Lib.hid fun w' h1 h2 => by rw [← hpost, h1]; exact ⟨rfl, h2⟩
  have HO : Hid (∀ x w', wordV r = some (x, r.drop N) → TD W1 (r.drop N) k w' → Gr W1 W w' → post (.returned (.agg #[.int .u8 (x.k : Nat), .string ⟨x.s.toArray⟩, .int .i64 x.n, .int .i64 (x.line : Nat)])) w') := Lib.hid fun x w' h1 h2 h3 => by rw [← hpost, h1]; exact ⟨_, rfl, rfl, h2, h3⟩
  clear hpost h hr0 hb0 htab ha hd
  have g1 : (N : Int) ≤ (r.length : Int) := by omega
  have g0 : (0 : Int) ≤ (N : Int) := by omega
  cases hlex : lexL (r.take N) with
  | err ln =>
    have hnone : wordV r = none := wordV_err (n := ln) (by rw [hN]; exact hlex)
    rw [hlex] at HW
    go_enter Tryz.func83, Tryz.ntmps83
    go_wp2_with (first
      | (go_at_call 105; (with_reducible refine HF.out.mono ?_); rintro e1 w1 ⟨rfl, hb1⟩; obtain ⟨⟨a0, a1⟩, b0, b1⟩ := (HR0.out.keep hb1).cells)
      | (go_at_call 9; (with_reducible refine (HW.out _ hb1).mono ?_); rintro e2 w2 ⟨⟨n2, q2, rfl⟩, hb2⟩))
    exact ⟨rfl, HB.out _ hnone (hg0.trans (((gr_refl W1 W0).below hb1).below hb2))⟩
  | ok ws =>
    rw [hlex] at HW
    by_cases h1 : ws.length = 1
    · obtain ⟨x, rfl⟩ : ∃ x, ws = [x] := List.length_eq_one_iff.1 h1
      have hone : wordV r = some (x, r.drop N) := by rw [← hN]; exact wordV_one (by rw [hN]; exact hlex)
      go_enter Tryz.func83, Tryz.ntmps83
      go_upto_region 6 with (first
        | (go_at_call 105; (with_reducible refine HF.out.mono ?_); rintro e1 w1 ⟨rfl, hb1⟩; obtain ⟨⟨a0, a1⟩, b0, b1⟩ := (HR0.out.keep hb1).cells)
        | (go_at_call 9; (with_reducible refine (HW.out _ hb1).mono ?_); rintro e2 w2 ⟨⟨v2, rfl, ho2⟩, hb2⟩; have HWD := Lib.hid (Wds.of_own ho2); obtain ⟨ao, cap, rfl, hc1, hc2, -⟩ := HWD.out; obtain ⟨⟨a0, a1⟩, b0, b1⟩ := ((HR0.out.keep hb1).keep hb2).cells))
      have hsz1 := hb1.size
      have hsz2 := hb2.size
      obtain ⟨W3, hW3⟩ : ∃ W3, w2.setCell ⟨W1.heap.size, 0, none⟩ (.string ((⟨r.toArray⟩ : ByteArray).extract N r.length)) = W3 := ⟨_, rfl⟩
      have hr3 : TD W1 (r.drop N) k W3 := by rw [← hW3, HD.out]; exact ((HR0.out.keep hb1).keep hb2).setR _
      have hg3 : Gr W1 W0 W3 := by rw [← hW3]; exact (((gr_refl W1 W0).below hb1).below hb2).set 0 _
      have hw3 : Wds W3 (.slice ao 1 cap) [x] := by
        refine Wds.of_own (ownsRow_keep ho2 (fun q h1 h2 => ?_))
        rw [← hW3]
        exact Below.heap_setCell _ _ _ _ (by show q ≠ W1.heap.size; have := HR0.out.lt; omega)
      obtain ⟨b, q, rfl, x0, x1, x2, x3⟩ := hw3.at 0 (by simp)
      have y0 : W3.cell? ⟨b, q, none⟩ = some (.int .u8 (x.k : Nat)) := x0
      have y1 : W3.cell? ⟨b, q + 1, none⟩ = some (.string ⟨x.s.toArray⟩) := x1
      have y2 : W3.cell? ⟨b, q + 2, none⟩ = some (.int .i64 x.n) := x2
      have y3 : W3.cell? ⟨b, q + 3, none⟩ = some (.int .i64 (x.line : Nat)) := x3
      try rw [hW3]
      clear x0 x1 x2 x3 hW3 a0 a1 b0 b1
      have HR3 := Lib.hid hr3
      go_wp2_with (refine wpList_store_row rfl 55 _ _ rfl W.heap.size _ rfl rfl 55 #[.int .u8 0, .string ⟨#[]⟩, .int .i64 0, .int .i64 0] (gr_block hg3 hlt HK0.out) (by kernel_rfl) rfl (by simp [Value.oneCell']) ?_)
      refine bodyPost_ret (results_cell_row Tryz.results83 _ _ W.heap.size 55 _ (0, 0) _ rfl (setRow_heap _ _ _ _ _ _ (gr_block hg3 hlt HK0.out)) Tryz.underlying55 rfl (by kernel_rfl)) rfl ?_
      exact HO.out x _ hone (HR3.out.put (put_row _ _ _) hlt) ((put_row _ _ _).gr (hg0.trans hg3) (Nat.le_refl _))
    · have hnone : wordV r = none := wordV_not (by rw [hN]; exact hlex) h1
      have h1n : ¬ (ws.length : Int) = 1 := by omega
      go_enter Tryz.func83, Tryz.ntmps83
      go_wp2_with (first
        | (go_at_call 105; (with_reducible refine HF.out.mono ?_); rintro e1 w1 ⟨rfl, hb1⟩; obtain ⟨⟨a0, a1⟩, b0, b1⟩ := (HR0.out.keep hb1).cells)
        | (go_at_call 9; (with_reducible refine (HW.out _ hb1).mono ?_); rintro e2 w2 ⟨⟨v2, rfl, ho2⟩, hb2⟩; obtain ⟨ao, cap, rfl, hc1, hc2, -⟩ := Wds.of_own ho2))
      exact ⟨rfl, HB.out _ hnone (hg0.trans (((gr_refl W1 W0).below hb1).below hb2))⟩
end Go.Proofs.YtdlmemalefhgmaaGreatDoor
namespace Go.Proofs.YtdlmemalefhgmaaGreatDoor
set_option linter.unusedVariables false
set_option linter.unusedSimpArgs false
open Go.RowKit G

def vCols (k n : Int) (s : Str) (l f : List (List T)) : List T := [.sc (.int .u8 k), .sc (.int .i64 n), .sc (str s), ofRows 8 l, ofRows 9 f, .sc (.int .u8 0), .sc (str []), .sc (.bool false)]
def ShV (vs : List Value) : Prop := ∃ (x0 : Int) (x1 : Int) (x2 : ByteArray) (x3 : Option Addr) (x3l x3q : Nat) (x4 : Option Addr) (x4l x4q : Nat) (x5 : Int) (x6 : ByteArray) (x7 : Bool), vs = [.int .u8 x0, .int .i64 x1, .string x2, .slice x3 x3l x3q, .slice x4 x4l x4q, .int .u8 x5, .string x6, .bool x7]
theorem shV_one {vs : List Value} (h : ShV vs) : (∀ u ∈ vs, u.oneCell' = true) ∧ vs.length = 8 := by
  obtain ⟨x0, x1, x2, x3, x3l, x3q, x4, x4l, x4q, x5, x6, x7, rfl⟩ := h
  refine ⟨fun u hu => ?_, rfl⟩
  simp at hu
  rcases hu with rfl | rfl | rfl | rfl | rfl | rfl | rfl | rfl <;> rfl
theorem iszV : (Tryz.prog.info? 50).map (·.size) = some 8 := by kernel_rfl
theorem row_word {w : World} {ok : Nat → Prop} (k n : Int) (s : Str) : Row w ok (vCols k n s [] []) [.int .u8 k, .int .i64 n, .string ⟨s.toArray⟩, .slice none 0 0, .slice none 0 0, .int .u8 0, .string ⟨#[]⟩, .bool false] :=
  row_one _ (row_one _ (row_one _ (row_rows (rep_nil 8) (row_rows (rep_nil 9) (row_one _ (row_one _ (row_one _ .nil)))))))
/-- A value of one word. -/
def plainV (r : Str) (k : Nat) : Option (List T × Str × Nat) := match wordV r with
  | none => none
  | some (w, r') => if w.k = 2 then some (vCols 1 w.n [] [] [], r', k) else if w.k = 3 then some (vCols 3 0 w.s [] [], r', k)
    else if w.s = [121, 101, 115] then some (vCols 2 1 [] [] [], r', k) else if w.s = [110, 111] then some (vCols 2 0 [] [] [], r', k) else if w.s = [110, 111, 110, 101] then some (vCols 0 0 [] [] [], r', k) else none
theorem one_cases (s : Str) : s = [121, 101, 115] ∨ s = [110, 111] ∨ s = [110, 111, 110, 101] ∨ (¬ s = [121, 101, 115] ∧ (s == [121, 101, 115]) = false ∧ ¬ s = [110, 111] ∧ (s == [110, 111]) = false ∧ ¬ s = [110, 111, 110, 101] ∧ (s == [110, 111, 110, 101]) = false) := by
  by_cases h0 : s = [121, 101, 115]
  · exact .inl h0
  by_cases h1 : s = [110, 111]
  · exact .inr (.inl h1)
  by_cases h2 : s = [110, 111, 110, 101]
  · exact .inr (.inr (.inl h2))
  exact .inr (.inr (.inr (⟨h0, by simpa using h0, h1, by simpa using h1, h2, by simpa using h2⟩)))
set_option maxRecDepth 100000 in
set_option maxHeartbeats 16000000 in
theorem plain_v {W1 : World} {r : Str} {k : Nat} {W : World} (h : TD W1 r k W) (ha : Asc r) (hl : r.length ≤ 140737488355328) (htab : LTabs W1) :
    Calls Tryz.prog 64 #[rp W1] W (PostV W1 W (FT ShV W.heap.size) (plainV r k)) := by
  obtain ⟨W0, hW0⟩ : ∃ W0, W.alloc (.cells #[.int .u8 0, .int .i64 0, .string ⟨#[]⟩, .slice none 0 0, .slice none 0 0, .int .u8 0, .string ⟨#[]⟩, .bool false] 50) = W0 := ⟨_, rfl⟩
  have hlt := h.lt
  have hr0 : TD W1 r k W0 := by rw [← hW0]; exact h.alloc _
  have hg0 : Gr W1 W W0 := by rw [← hW0]; exact (gr_refl W1 W).alloc _
  have hz0 : W0.heap.size = W.heap.size + 1 := by rw [← hW0]; simp
  have hb0 : W0.heap[W.heap.size]? = some (.cells #[.int .u8 0, .int .i64 0, .string ⟨#[]⟩, .slice none 0 0, .slice none 0 0, .int .u8 0, .string ⟨#[]⟩, .bool false] 50 (0, 0)) := by rw [← hW0]; exact heap_alloc_new _ _
  have HK0 := Lib.hid hb0
  have HWD := Lib.hid (word_v hr0 ha hl htab)
  obtain ⟨post, hpost⟩ : ∃ p, PostV W1 W (FT ShV W.heap.size) (plainV r k) = p := ⟨_, rfl⟩
  rw [hpost]
  have HB : Hid (∀ w', plainV r k = none → Gr W1 W w' → post (.panicked [pz]) w') := Lib.hid fun w' h1 h2 => by rw [← hpost, h1]; exact ⟨rfl, h2⟩
  have HO : Hid (∀ x r' v w', plainV r k = some (x, r', k) → FT ShV W.heap.size x v w' → TD W1 r' k w' → Gr W1 W w' → post (.returned v) w') := Lib.hid fun x r' v w' h1 h2 h3 h4 => by rw [← hpost, h1]; exact ⟨_, rfl, h2, h3, h4⟩
  clear hpost h hr0 hb0 htab
  have hz0q := Nat.le_of_eq hz0.symm
  clear hz0
  cases hw : wordV r with
  | none =>
    rw [hw] at HWD
    go_enter Tryz.func64, Tryz.ntmps64
    go_wp2_with (go_at_call 83; (with_reducible refine HWD.out.mono ?_); rintro e1 w1 ⟨rfl, hk1⟩)
    exact ⟨rfl, HB.out _ (by simp [plainV, hw]) (hg0.trans hk1)⟩
  | some p =>
    obtain ⟨⟨xk, xs, xn, xl⟩, r'⟩ := p
    rw [hw] at HWD
    by_cases hk2 : xk = 2
    · subst hk2
      go_enter Tryz.func64, Tryz.ntmps64
      go_wp2_with (first
        | (go_at_call 83; (with_reducible refine HWD.out.mono ?_); rintro e1 w1 ⟨v1, rfl, rfl, ht1, hk1⟩)
        | (have hs1 := hk1.size; refine wpList_store_row rfl 50 _ _ rfl W.heap.size _ rfl rfl 50 #[.int .u8 0, .int .i64 0, .string ⟨#[]⟩, .slice none 0 0, .slice none 0 0, .int .u8 0, .string ⟨#[]⟩, .bool false] ((Below.heap_alloc _ _ _ (by omega)).trans (gr_block hk1 hlt HK0.out)) iszV rfl (all_one (shV_one (by exact ⟨_, _, _, _, _, _, _, _, _, _, _, _, rfl⟩)).1) ?_))
      have hs1 := hk1.size
      refine bodyPost_ret (results_cell_row Tryz.results64 _ _ W.heap.size 50 _ (0, 0) _ rfl (setRow_heap _ _ _ _ _ _ ((Below.heap_alloc _ _ _ (by omega)).trans (gr_block hk1 hlt HK0.out))) Tryz.underlying50 rfl iszV) rfl ?_
      exact HO.out (vCols 1 xn [] [] []) r' _ _ (by simp [plainV, hw]) ⟨_, rfl, ⟨_, _, _, _, _, _, _, _, _, _, _, _, rfl⟩, row_word _ _ _⟩ ((ht1.alloc _).put (put_row _ _ _) hlt) ((put_row _ _ _).gr ((hg0.trans hk1).alloc _) (Nat.le_refl _))
    by_cases hk3 : xk = 3
    · subst hk3
      go_enter Tryz.func64, Tryz.ntmps64
      go_wp2_with (first
        | (go_at_call 83; (with_reducible refine HWD.out.mono ?_); rintro e1 w1 ⟨v1, rfl, rfl, ht1, hk1⟩)
        | (have hs1 := hk1.size; refine wpList_store_row rfl 50 _ _ rfl W.heap.size _ rfl rfl 50 #[.int .u8 0, .int .i64 0, .string ⟨#[]⟩, .slice none 0 0, .slice none 0 0, .int .u8 0, .string ⟨#[]⟩, .bool false] ((Below.heap_alloc _ _ _ (by omega)).trans (gr_block hk1 hlt HK0.out)) iszV rfl (all_one (shV_one (by exact ⟨_, _, _, _, _, _, _, _, _, _, _, _, rfl⟩)).1) ?_))
      have hs1 := hk1.size
      refine bodyPost_ret (results_cell_row Tryz.results64 _ _ W.heap.size 50 _ (0, 0) _ rfl (setRow_heap _ _ _ _ _ _ ((Below.heap_alloc _ _ _ (by omega)).trans (gr_block hk1 hlt HK0.out))) Tryz.underlying50 rfl iszV) rfl ?_
      exact HO.out (vCols 3 0 xs [] []) r' _ _ (by simp [plainV, hw]) ⟨_, rfl, ⟨_, _, _, _, _, _, _, _, _, _, _, _, rfl⟩, row_word _ _ _⟩ ((ht1.alloc _).put (put_row _ _ _) hlt) ((put_row _ _ _).gr ((hg0.trans hk1).alloc _) (Nat.le_refl _))
    have a2 : ((xk : Int) == 2) = false := kk_ne 2 hk2
    have a3 : ((xk : Int) == 3) = false := kk_ne 3 hk3
    have b2 : ¬ (xk : Int) = 2 := by omega
    have b3 : ¬ (xk : Int) = 3 := by omega
    rcases one_cases xs with rfl | rfl | rfl | ⟨n0, q0, n1, q1, n2, q2⟩
    · go_enter Tryz.func64, Tryz.ntmps64
      go_wp2_with (first
        | (go_at_call 83; (with_reducible refine HWD.out.mono ?_); rintro e1 w1 ⟨v1, rfl, rfl, ht1, hk1⟩)
        | (have hs1 := hk1.size; refine wpList_store_row rfl 50 _ _ rfl W.heap.size _ rfl rfl 50 #[.int .u8 0, .int .i64 0, .string ⟨#[]⟩, .slice none 0 0, .slice none 0 0, .int .u8 0, .string ⟨#[]⟩, .bool false] ((Below.heap_alloc _ _ _ (by omega)).trans (gr_block hk1 hlt HK0.out)) iszV rfl (all_one (shV_one (by exact ⟨_, _, _, _, _, _, _, _, _, _, _, _, rfl⟩)).1) ?_))
      have hs1 := hk1.size
      refine bodyPost_ret (results_cell_row Tryz.results64 _ _ W.heap.size 50 _ (0, 0) _ rfl (setRow_heap _ _ _ _ _ _ ((Below.heap_alloc _ _ _ (by omega)).trans (gr_block hk1 hlt HK0.out))) Tryz.underlying50 rfl iszV) rfl ?_
      exact HO.out (vCols 2 1 [] [] []) r' _ _ (by simp [plainV, hw, hk2, hk3]) ⟨_, rfl, ⟨_, _, _, _, _, _, _, _, _, _, _, _, rfl⟩, row_word _ _ _⟩ ((ht1.alloc _).put (put_row _ _ _) hlt) ((put_row _ _ _).gr ((hg0.trans hk1).alloc _) (Nat.le_refl _))
    · go_enter Tryz.func64, Tryz.ntmps64
      go_wp2_with (first
        | (go_at_call 83; (with_reducible refine HWD.out.mono ?_); rintro e1 w1 ⟨v1, rfl, rfl, ht1, hk1⟩)
        | (have hs1 := hk1.size; refine wpList_store_row rfl 50 _ _ rfl W.heap.size _ rfl rfl 50 #[.int .u8 0, .int .i64 0, .string ⟨#[]⟩, .slice none 0 0, .slice none 0 0, .int .u8 0, .string ⟨#[]⟩, .bool false] ((Below.heap_alloc _ _ _ (by omega)).trans (gr_block hk1 hlt HK0.out)) iszV rfl (all_one (shV_one (by exact ⟨_, _, _, _, _, _, _, _, _, _, _, _, rfl⟩)).1) ?_))
      have hs1 := hk1.size
      refine bodyPost_ret (results_cell_row Tryz.results64 _ _ W.heap.size 50 _ (0, 0) _ rfl (setRow_heap _ _ _ _ _ _ ((Below.heap_alloc _ _ _ (by omega)).trans (gr_block hk1 hlt HK0.out))) Tryz.underlying50 rfl iszV) rfl ?_
      exact HO.out (vCols 2 0 [] [] []) r' _ _ (by simp [plainV, hw, hk2, hk3]) ⟨_, rfl, ⟨_, _, _, _, _, _, _, _, _, _, _, _, rfl⟩, row_word _ _ _⟩ ((ht1.alloc _).put (put_row _ _ _) hlt) ((put_row _ _ _).gr ((hg0.trans hk1).alloc _) (Nat.le_refl _))
    · go_enter Tryz.func64, Tryz.ntmps64
      go_wp2_with (first
        | (go_at_call 83; (with_reducible refine HWD.out.mono ?_); rintro e1 w1 ⟨v1, rfl, rfl, ht1, hk1⟩)
        | (have hs1 := hk1.size; refine wpList_store_row rfl 50 _ _ rfl W.heap.size _ rfl rfl 50 #[.int .u8 0, .int .i64 0, .string ⟨#[]⟩, .slice none 0 0, .slice none 0 0, .int .u8 0, .string ⟨#[]⟩, .bool false] ((Below.heap_alloc _ _ _ (by omega)).trans (gr_block hk1 hlt HK0.out)) iszV rfl (all_one (shV_one (by exact ⟨_, _, _, _, _, _, _, _, _, _, _, _, rfl⟩)).1) ?_))
      have hs1 := hk1.size
      refine bodyPost_ret (results_cell_row Tryz.results64 _ _ W.heap.size 50 _ (0, 0) _ rfl (setRow_heap _ _ _ _ _ _ ((Below.heap_alloc _ _ _ (by omega)).trans (gr_block hk1 hlt HK0.out))) Tryz.underlying50 rfl iszV) rfl ?_
      exact HO.out (vCols 0 0 [] [] []) r' _ _ (by simp [plainV, hw, hk2, hk3]) ⟨_, rfl, ⟨_, _, _, _, _, _, _, _, _, _, _, _, rfl⟩, row_word _ _ _⟩ ((ht1.alloc _).put (put_row _ _ _) hlt) ((put_row _ _ _).gr ((hg0.trans hk1).alloc _) (Nat.le_refl _))
    · go_enter Tryz.func64, Tryz.ntmps64
      go_wp2_with (go_at_call 83; (with_reducible refine HWD.out.mono ?_); rintro e1 w1 ⟨v1, rfl, rfl, ht1, hk1⟩)
      exact ⟨rfl, HB.out _ (by simp [plainV, hw, hk2, hk3, n0, n1, n2]) ((hg0.trans hk1).alloc _)⟩
end Go.Proofs.YtdlmemalefhgmaaGreatDoor
