/-
  Walks: strings.IndexAny of " ]}" in whatever text, bytes above 127 among them: the first of the three bytes ('index_any').
  Conditions: the text is no longer than the reach.
-/
import Derived.Test.YtdlmemalefhgmaaGreatDoorShelfV
import Derived.Lib.OthersKept
import Derived.Lib.IndexAny
import Derived.BigQuiet
import Derived.WalkMore
import Derived.Deep.QuietTactic
import Derived.Test.YtdlmemalefhgmaaGreatDoorParPa
namespace Go.Proofs.YtdlmemalefhgmaaGreatDoor
set_option linter.unusedVariables false
set_option linter.unusedSimpArgs false
open Go.RowKit G

theorem get_bang (s : ByteArray) (i : Nat) (h : i < s.size) : s.data.toList[i]? = some (s.get! i) := by
  rw [Lib.data_getElem? s i h]
  congr 1
  show s.data[i] = s.data[i]!
  rw [getElem!_pos s.data i h]
/-- A rune that begins with a byte above 127: none of its bytes is an ASCII byte. -/
theorem decode_far (s : ByteArray) (i : Nat) (hi : i < s.size) (hb : 128 ≤ (s.get! i).toNat) :
    ∃ r wd, Utf8.decode s i = (r, wd) ∧ 128 ≤ r ∧ r ≤ 1114111 ∧ 1 ≤ wd ∧ i + wd ≤ s.size ∧ ∀ j, j < wd → 128 ≤ (s.get! (i + j)).toNat := by
  have one : ∀ j, j < 1 → 128 ≤ (s.get! (i + j)).toNat := fun j hj => by
    obtain rfl : j = 0 := by omega
    exact hb
  have err : ∃ r wd, ((Utf8.runeError, 1) : Nat × Nat) = (r, wd) ∧ 128 ≤ r ∧ r ≤ 1114111 ∧ 1 ≤ wd ∧ i + wd ≤ s.size ∧ ∀ j, j < wd → 128 ≤ (s.get! (i + j)).toNat := ⟨_, _, rfl, by decide, by decide, Nat.le_refl _, by omega, one⟩
  have hval : ∀ c : Nat, Utf8.valid (c : Int) = true → c ≤ 1114111 := fun c h => by
    simp only [Utf8.valid, Bool.or_eq_true, Bool.and_eq_true, decide_eq_true_eq] at h
    omega
  unfold Utf8.decode
  simp only [Nat.add_zero]
  rw [if_neg (by omega)]
  split
  · rename_i h
    simp only [Bool.and_eq_true, decide_eq_true_eq, beq_iff_eq] at h
    obtain ⟨h0, h1, h2⟩ := h
    split
    · rename_i hc
      refine ⟨_, _, rfl, hc, ?_, by decide, by omega, fun j hj => ?_⟩
      · have := Nat.mod_lt (s.get! i).toNat (show 0 < 32 by decide)
        have := Nat.mod_lt (s.get! (i + 1)).toNat (show 0 < 64 by decide)
        omega
      · rcases (show j = 0 ∨ j = 1 by omega) with rfl | rfl
        · exact hb
        · omega
    · exact err
  · split
    · rename_i h
      simp only [Bool.and_eq_true, decide_eq_true_eq, beq_iff_eq] at h
      obtain ⟨⟨h0, h1, h2⟩, h3, h4⟩ := h
      split
      · rename_i hc
        simp only [Bool.and_eq_true, decide_eq_true_eq] at hc
        refine ⟨_, _, rfl, by omega, hval _ hc.2, by decide, by omega, fun j hj => ?_⟩
        rcases (show j = 0 ∨ j = 1 ∨ j = 2 by omega) with rfl | rfl | rfl
        · exact hb
        · omega
        · omega
      · exact err
    · split
      · rename_i h
        simp only [Bool.and_eq_true, decide_eq_true_eq, beq_iff_eq] at h
        obtain ⟨⟨⟨h0, h1, h2⟩, h3, h4⟩, h5, h6⟩ := h
        split
        · rename_i hc
          simp only [Bool.and_eq_true, decide_eq_true_eq] at hc
          refine ⟨_, _, rfl, by omega, hval _ hc.2, by decide, by omega, fun j hj => ?_⟩
          rcases (show j = 0 ∨ j = 1 ∨ j = 2 ∨ j = 3 by omega) with rfl | rfl | rfl | rfl
          · exact hb
          · omega
          · omega
          · omega
        · exact err
      · exact err
/-- A rune above 127, written: two to four bytes, the last one above 127. -/
theorem encode_far (r : Int) (h : 128 ≤ r) : (∃ a b : UInt8, Utf8.encode r = ⟨#[a, b]⟩ ∧ 128 ≤ b.toNat) ∨ (∃ a b c : UInt8, Utf8.encode r = ⟨#[a, b, c]⟩ ∧ 128 ≤ c.toNat) ∨ (∃ a b c d : UInt8, Utf8.encode r = ⟨#[a, b, c, d]⟩) := by
  have low : ∀ n : Nat, 128 ≤ (UInt8.ofNat (0x80 + n % 64)).toNat := fun n => by
    have := Nat.mod_lt n (show 0 < 64 by decide)
    rw [UInt8.toNat_ofNat']
    omega
  unfold Utf8.encode
  obtain ⟨c, hc⟩ : ∃ c, (if Utf8.valid r then r.toNat else Utf8.runeError) = c := ⟨_, rfl⟩
  have hc128 : 128 ≤ c := by
    rw [← hc]
    split
    · omega
    · decide
  simp only [hc]
  rw [if_neg (by omega)]
  split
  · exact .inl ⟨_, _, rfl, low _⟩
  · split
    · exact .inr (.inl ⟨_, _, _, rfl, low _⟩)
    · exact .inr (.inr ⟨_, _, _, _, rfl⟩)
set_option maxRecDepth 100000 in
set_option maxHeartbeats 4000000 in
theorem valid_rune (r : Int) (w : World) : Calls Tryz.prog 151 #[.int .i32 r] w fun e w' => (∃ b, e = .returned (.bool b)) ∧ w' = w := by
  go_enter Tryz.func151, Tryz.ntmps151
  go_wp2
  all_goals (try go_ret)
  all_goals first | exact ⟨.inl rfl, rfl⟩ | exact ⟨.inr rfl, rfl⟩ | exact ⟨⟨_, rfl⟩, rfl⟩
theorem below_iter (w : World) (s : ByteArray) (pos : Nat) : Below w.heap.size w (w.iter s pos) := (Below.refl _ _).alloc (Nat.le_refl _) _
abbrev sep : ByteArray := ⟨#[32, 93, 125]⟩
theorem sep_low : ∀ i (h : i < sep.size), (sep[i]'h).toNat < 128 := fun i h => by
  have h3 : i < 3 := h
  match i, h3 with
  | 0, _ => exact (by decide : (32 : UInt8).toNat < 128)
  | 1, _ => exact (by decide : (93 : UInt8).toNat < 128)
  | 2, _ => exact (by decide : (125 : UInt8).toNat < 128)
set_option maxRecDepth 100000 in
set_option maxHeartbeats 8000000 in
theorem rune_err (w : World) : Calls Tryz.prog 138 #[.string ⟨#[32, 93, 125]⟩, .int .i32 65533] w fun e w' => e = .returned (.int .i64 (-1)) ∧ Below w.heap.size w w' := by
  go_enter Tryz.func138, Tryz.ntmps138
  go_wp2
  go_loopg [5, 6] 3 (fun g _ _ wx => ∃ i : Nat, i + g = 3 ∧ wx.heap[w.heap.size]? = some (.stringIter ⟨#[32, 93, 125]⟩ i) ∧ Below w.heap.size w wx)
  case atStart => exact ⟨0, by omega, World.iter_heap _ _ _, below_iter _ _ _⟩
  case round =>
    obtain ⟨i, hig, hk, hb⟩ := hrel
    have HB := Lib.hid hb
    have HK := Lib.hid hk
    clear hb
    cases gk with
    | zero =>
      obtain rfl : i = 3 := by omega
      have hnx := fun ty => Lib.run_next_end_at (P := Tryz.prog) wr w.heap.size sep 3 ty hk (by decide)
      clear hk
      go_wp2
      go_ret
      exact ⟨rfl, HB.out⟩
    | succ g =>
      have hi : i < sep.size := by show i < 3; omega
      have hnx := fun ty => Lib.run_next_ascii_at (P := Tryz.prog) wr w.heap.size sep i ty hk hi (sep_low i hi)
      have hl := sep_low i hi
      obtain ⟨b, hbb⟩ : ∃ b, (sep[i]'hi).toNat = b := ⟨_, rfl⟩
      rw [hbb] at hl
      simp only [hbb] at hnx
      have hne : ((b : Int) == 65533) = false := beq_eq_false_iff_ne.2 (by omega)
      clear hk hbb
      go_wp2
      go_roundg g
      case measure => omega
      case rel => exact ⟨i + 1, by omega, Lib.iterAt_heap _ _ _ _ _ HK.out, Lib.below_iterAt HB.out (Nat.le_refl _) _ _⟩
theorem no_sep (x : UInt8) (h : 128 ≤ x.toNat) (l : List UInt8) (hl : ∀ y ∈ l, y.toNat < 128) : Lib.indexByte l x = -1 := by
  have hc : l.contains x = false := by
    rw [Bool.eq_false_iff]
    intro hc
    rw [List.contains_iff_mem] at hc
    have := hl x hc
    omega
  have := Lib.contains_iff_indexByte l x
  rw [hc] at this
  have h2 : ¬ (0 ≤ Lib.indexByte l x) := of_decide_eq_false this.symm
  have h3 := Lib.indexByte_ge l x
  omega
theorem wpList_rune {P : Program} {w : World} {ops : Array Oper} {rest : List Oper} {o : Oper} {a : Act} {Q : Exit → Act → World → Prop} (hgd : o.guard = none) (src dst : TypeId) (x : Operand) (ho : o.op = .convert src dst x) (r : Int) (hx : a.eval x = .int .i32 r) (v : Value)
    (hrun : ∀ W, (convert src dst (.int .i32 r)).run P W = .ok v W) (h : wpList P ops Q rest (a.put o.dst v) w) : wpList P ops Q (o :: rest) a w := by
  refine wpList_plain hgd fun K hK => ?_
  unfold Oper.wp
  simp [execOp, ho, resolve, hx, hrun, Result.andThen]
  exact hK _ _ h
theorem not_low (n : Nat) (x : UInt8) (h : 128 ≤ x.toNat) (hn : n < 128) : ((n : Int) == (x.toNat : Int)) = false := beq_eq_false_iff_ne.2 (by omega)
set_option maxRecDepth 100000 in
set_option maxHeartbeats 8000000 in
theorem rune_two (r : Int) (w : World) (h1 : 128 ≤ r) (hn : r ≠ 65533) (a b : UInt8) (he : Utf8.encode r = ⟨#[a, b]⟩) (hb : 128 ≤ b.toNat) : Calls Tryz.prog 138 #[.string ⟨#[32, 93, 125]⟩, .int .i32 r] w fun e w' => e = .returned (.int .i64 (-1)) ∧ Below w.heap.size w w' := by
  have HV := Lib.hid (valid_rune r w)
  have g1 : (0 : Int) ≤ r := by omega
  have g2 : ¬ r < 128 := by omega
  have g3 : (r == 65533) = false := beq_eq_false_iff_ne.2 hn
  have q1 := not_low 93 b hb (by decide)
  have q2 : (((((⟨#[32, 93, 125]⟩ : ByteArray)[1]'(by show 1 < 3; decide)).toNat : Nat) : Int) != ((((⟨#[a, b]⟩ : ByteArray)[1]'(by show 1 < 2; decide)).toNat : Nat) : Int)) = true := by
    show ((93 : Int) != (b.toNat : Int)) = true
    rw [bne_iff_ne]
    omega
  have hcc : ((b.toNat : Int)).toNat.toUInt8 = b := by simp
  have hix : Lib.indexByte (ByteArray.extract ⟨#[32, 93, 125]⟩ 2 3).data.toList b = -1 := no_sep _ hb _ (by decide)
  have HI := Lib.hid (fun W => Tryz.strings_IndexByte (ByteArray.extract ⟨#[32, 93, 125]⟩ 2 3) (b.toNat : Int) W)
  rw [hcc, hix] at HI
  have HJ : Hid (∀ W, Calls Tryz.prog 150 #[.string (ByteArray.extract ⟨#[32, 93, 125]⟩ 2 3), .int .u8 ((((⟨#[a, b]⟩ : ByteArray)[1]'(by show 1 < 2; decide)).toNat : Nat) : Int)] W fun e w' => e = .returned (.int .i64 (-1)) ∧ w' = W) := HI
  clear hix hcc
  have hcs : ∀ W, (Conv.intToString r).run Tryz.prog W = .ok (.string ⟨#[a, b]⟩) W := fun W => by rw [← he]; rfl
  have hcv : ∀ W, (convert 21 9 (.int .i32 r)).run Tryz.prog W = .ok (.string ⟨#[a, b]⟩) W := fun W => by rw [← he]; rfl
  go_enter Tryz.func138, Tryz.ntmps138
  go_wp2_with (go_at_call 151; (with_reducible refine HV.out.mono ?_); rintro e w' ⟨⟨bo, rfl⟩, rfl⟩; cases bo)
  · go_ret
    exact ⟨rfl, Below.refl _ _⟩
  · have HB := Lib.hid (Below.refl w'.heap.size w')
    go_step3
    go_wp2_with (refine wpList_rune rfl _ _ _ rfl r rfl _ hcv ?_)
    go_loopw [9, 10, 11, 12] (fun i f o j wr => i = .int .i64 1 ∧ f = .int .i64 0 ∧ wr = w') (fun _ _ _ _ _ => 0)
    case atStart => exact ⟨rfl, rfl, rfl⟩
    case round =>
      obtain ⟨rfl, rfl, rfl⟩ := hrel
      go_wp2_with fail
      go_step3
      go_upto_region 6 with fail
      go_quiet (fail)
      go_upto_region 7 with fail
      go_quiet ((go_at_call 150; refine (HJ.out _).mono ?_; rintro _ _ ⟨rfl, rfl⟩; exact ⟨rfl, _, rfl⟩))
      go_wp2
      simp (config := { zetaDelta := true }) only [go_sem]
      go_ret
      exact ⟨rfl, ⟨rfl, rfl, rfl, Nat.le_refl _, fun _ _ => rfl⟩⟩
set_option maxRecDepth 100000 in
set_option maxHeartbeats 8000000 in
theorem rune_three (r : Int) (w : World) (h1 : 128 ≤ r) (hn : r ≠ 65533) (a b c : UInt8) (he : Utf8.encode r = ⟨#[a, b, c]⟩) (hb : 128 ≤ c.toNat) : Calls Tryz.prog 138 #[.string ⟨#[32, 93, 125]⟩, .int .i32 r] w fun e w' => e = .returned (.int .i64 (-1)) ∧ Below w.heap.size w w' := by
  have HV := Lib.hid (valid_rune r w)
  have g1 : (0 : Int) ≤ r := by omega
  have g2 : ¬ r < 128 := by omega
  have g3 : (r == 65533) = false := beq_eq_false_iff_ne.2 hn
  have q1 := not_low 125 c hb (by decide)
  have q2 : (((((⟨#[32, 93, 125]⟩ : ByteArray)[2]'(by show 2 < 3; decide)).toNat : Nat) : Int) != ((((⟨#[a, b, c]⟩ : ByteArray)[2]'(by show 2 < 3; decide)).toNat : Nat) : Int)) = true := by
    show ((125 : Int) != (c.toNat : Int)) = true
    rw [bne_iff_ne]
    omega
  have hcc : ((c.toNat : Int)).toNat.toUInt8 = c := by simp
  have hix : Lib.indexByte (ByteArray.extract ⟨#[32, 93, 125]⟩ 3 3).data.toList c = -1 := no_sep _ hb _ (by decide)
  have HI := Lib.hid (fun W => Tryz.strings_IndexByte (ByteArray.extract ⟨#[32, 93, 125]⟩ 3 3) (c.toNat : Int) W)
  rw [hcc, hix] at HI
  have HJ : Hid (∀ W, Calls Tryz.prog 150 #[.string ByteArray.empty, .int .u8 ((((⟨#[a, b, c]⟩ : ByteArray)[2]'(by show 2 < 3; decide)).toNat : Nat) : Int)] W fun e w' => e = .returned (.int .i64 (-1)) ∧ w' = W) := HI
  clear hix hcc
  have hcs : ∀ W, (Conv.intToString r).run Tryz.prog W = .ok (.string ⟨#[a, b, c]⟩) W := fun W => by rw [← he]; rfl
  have hcv : ∀ W, (convert 21 9 (.int .i32 r)).run Tryz.prog W = .ok (.string ⟨#[a, b, c]⟩) W := fun W => by rw [← he]; rfl
  go_enter Tryz.func138, Tryz.ntmps138
  go_wp2_with (go_at_call 151; (with_reducible refine HV.out.mono ?_); rintro e w' ⟨⟨bo, rfl⟩, rfl⟩; cases bo)
  · go_ret
    exact ⟨rfl, Below.refl _ _⟩
  · have HB := Lib.hid (Below.refl w'.heap.size w')
    go_step3
    go_wp2_with (refine wpList_rune rfl _ _ _ rfl r rfl _ hcv ?_)
    go_loopw [9, 10, 11, 12] (fun i f o j wr => i = .int .i64 2 ∧ f = .int .i64 0 ∧ wr = w') (fun _ _ _ _ _ => 0)
    case atStart => exact ⟨rfl, rfl, rfl⟩
    case round =>
      obtain ⟨rfl, rfl, rfl⟩ := hrel
      go_wp2_with fail
      go_step3
      go_upto_region 6 with fail
      go_quiet (fail)
      go_upto_region 7 with fail
      go_quiet ((go_at_call 150; refine (HJ.out _).mono ?_; rintro _ _ ⟨rfl, rfl⟩; exact ⟨rfl, _, rfl⟩))
      go_wp2
      simp (config := { zetaDelta := true }) only [go_sem]
      go_ret
      exact ⟨rfl, ⟨rfl, rfl, rfl, Nat.le_refl _, fun _ _ => rfl⟩⟩
set_option maxRecDepth 100000 in
set_option maxHeartbeats 8000000 in
theorem rune_four (r : Int) (w : World) (h1 : 128 ≤ r) (hn : r ≠ 65533) (a b c d : UInt8) (he : Utf8.encode r = ⟨#[a, b, c, d]⟩) : Calls Tryz.prog 138 #[.string ⟨#[32, 93, 125]⟩, .int .i32 r] w fun e w' => e = .returned (.int .i64 (-1)) ∧ Below w.heap.size w w' := by
  have HV := Lib.hid (valid_rune r w)
  have g1 : (0 : Int) ≤ r := by omega
  have g2 : ¬ r < 128 := by omega
  have g3 : (r == 65533) = false := beq_eq_false_iff_ne.2 hn
  have hcv : ∀ W, (convert 21 9 (.int .i32 r)).run Tryz.prog W = .ok (.string ⟨#[a, b, c, d]⟩) W := fun W => by rw [← he]; rfl
  go_enter Tryz.func138, Tryz.ntmps138
  go_wp2_with (go_at_call 151; (with_reducible refine HV.out.mono ?_); rintro e w' ⟨⟨bo, rfl⟩, rfl⟩; cases bo)
  · go_ret
    exact ⟨rfl, Below.refl _ _⟩
  · go_step3
    go_wp2_with (refine wpList_rune rfl _ _ _ rfl r rfl _ hcv ?_)
    go_loopw [9, 10, 11, 12] (fun i f o j wr => i = .int .i64 3 ∧ f = .int .i64 0 ∧ wr = w') (fun _ _ _ _ _ => 0)
    case atStart => exact ⟨rfl, rfl, rfl⟩
    case round =>
      obtain ⟨rfl, rfl, rfl⟩ := hrel
      go_wp2
      simp (config := { zetaDelta := true }) only [go_sem]
      go_ret
      exact ⟨rfl, Below.refl _ _⟩
/-- No rune above 127 is one of the three. -/
theorem rune_far (r : Nat) (w : World) (h1 : 128 ≤ r) : Calls Tryz.prog 138 #[.string ⟨#[32, 93, 125]⟩, .int .i32 (r : Int)] w fun e w' => e = .returned (.int .i64 (-1)) ∧ Below w.heap.size w w' := by
  by_cases hn : (r : Int) = 65533
  · rw [hn]; exact rune_err w
  · rcases encode_far (r : Int) (by omega) with ⟨a, b, he, hb⟩ | ⟨a, b, c, he, hb⟩ | ⟨a, b, c, d, he⟩
    · exact rune_two r w (by omega) hn a b he hb
    · exact rune_three r w (by omega) hn a b c he hb
    · exact rune_four r w (by omega) hn a b c d he
theorem noAny_far {s : ByteArray} : ∀ (n i : Nat), Lib.NoAny s.data.toList [32, 93, 125] i → i + n ≤ s.size → (∀ j, j < n → 128 ≤ (s.get! (i + j)).toNat) → Lib.NoAny s.data.toList [32, 93, 125] (i + n)
  | 0, i, h, _, _ => h
  | n + 1, i, h, hs, hj => by
    have h0 := hj 0 (by omega)
    rw [Nat.add_zero] at h0
    have hc : ([32, 93, 125] : List UInt8).contains (s.get! i) = false := by
      rw [Bool.eq_false_iff]
      intro hc
      rw [List.contains_iff_mem] at hc
      simp at hc
      rcases hc with h | h | h <;> rw [h] at h0 <;> exact absurd h0 (by decide)
    have h1 := h.succ (get_bang s i (by omega)) hc
    have := noAny_far n (i + 1) h1 (by omega) (fun j h2 => by have := hj (j + 1) (by omega); rwa [show i + 1 + j = i + (j + 1) by omega])
    rwa [show i + (n + 1) = i + 1 + n by omega]
set_option maxRecDepth 100000 in
set_option maxHeartbeats 8000000 in
theorem index_short (s : ByteArray) (w : World) (h8 : s.size ≤ 8) :
    Calls Tryz.prog 123 #[.string s, .string ⟨#[32, 93, 125]⟩] w fun e w' => e = .returned (.int .i64 (Lib.indexAny s.data.toList [32, 93, 125])) ∧ Below w.heap.size w w' := by
  have h8z : decide ((8 : Int) < (s.size : Int)) = false := decide_eq_false (by omega)
  have HU := Lib.hid (Tryz.strings_shouldUseASCIISet (s.size : Int) w)
  rw [h8z] at HU
  go_enter Tryz.func123, Tryz.ntmps123
  go_wp2_with (go_at_call 139; (with_reducible refine HU.out.mono ?_); rintro e w' ⟨rfl, hw⟩; obtain rfl : w = w' := hw.symm)
  go_loopg [9, 10] s.size (fun g _ _ wx => ∃ i : Nat, i + g = s.size ∧ wx.heap[w.heap.size]? = some (.stringIter s i) ∧ Below w.heap.size w wx ∧ Lib.NoAny s.data.toList [32, 93, 125] i)
  case atStart => exact ⟨0, by omega, World.iter_heap _ _ _, below_iter _ _ _, Lib.NoAny.zero _ _⟩
  case round =>
    obtain ⟨i, hig, hk, hb, hno⟩ := hrel
    have HB := Lib.hid hb
    have HK := Lib.hid hk
    have HN := Lib.hid hno
    clear hb hno
    by_cases hi : i < s.size
    · by_cases hlow : (s.get! i).toNat < 128
      · have hge : s[i]'hi = s.get! i := by
          have h1 := get_bang s i hi
          rw [Lib.data_getElem? s i hi] at h1
          exact Option.some.inj h1
        obtain ⟨x, hx⟩ : ∃ x : UInt8, s.get! i = x := ⟨_, rfl⟩
        rw [hx] at hge hlow
        have hnx := fun ty => Lib.run_next_ascii_at (P := Tryz.prog) wr w.heap.size s i ty hk hi (by rw [hge]; exact hlow)
        rw [hge] at hnx
        have HX : Hid (s.data.toList[i]? = some x) := (get_bang s i hi).trans (by rw [hx])
        have HI := Lib.hid (fun W => Tryz.strings_IndexRune_ascii ⟨#[32, 93, 125]⟩ (x.toNat : Int) W (by omega) (by omega))
        have hcc : ((x.toNat : Int)).toNat.toUInt8 = x := by simp
        rw [hcc] at HI
        have HI2 : Hid (∀ W, Calls Tryz.prog 138 #[.string ⟨#[32, 93, 125]⟩, .int .i32 (x.toNat : Int)] W fun e w' => e = .returned (.int .i64 (Lib.indexByte [32, 93, 125] x)) ∧ w' = W) := HI
        have hcon := Lib.contains_iff_indexByte [32, 93, 125] x
        clear hk hcc HI hge hx
        have HB2 := Lib.hid (Lib.below_iterAt HB.out (Nat.le_refl w.heap.size) s (i + 1))
        have HK2 := Lib.hid (Lib.iterAt_heap wr w.heap.size s i (i + 1) HK.out)
        cases hin : ([32, 93, 125] : List UInt8).contains x
        · rw [hin] at hcon
          have hlt : ¬ ((0 : Int) ≤ Lib.indexByte [32, 93, 125] x) := of_decide_eq_false hcon.symm
          clear hcon
          go_wp2_with (go_at_call 138; (with_reducible refine (HI2.out _).mono ?_); rintro e w' ⟨rfl, rfl⟩)
          go_roundg (s.size - (i + 1))
          case measure => omega
          case rel => exact ⟨i + 1, by omega, HK2.out, HB2.out, HN.out.succ HX.out hin⟩
        · rw [hin] at hcon
          have hge : (0 : Int) ≤ Lib.indexByte [32, 93, 125] x := of_decide_eq_true hcon.symm
          clear hcon
          go_wp2_with (go_at_call 138; (with_reducible refine (HI2.out _).mono ?_); rintro e w' ⟨rfl, rfl⟩)
          go_ret
          exact ⟨by rw [Lib.indexAny_hit HN.out HX.out hin]; rfl, HB2.out⟩
      · obtain ⟨r, wd, hde, hr, hr2, hw1, hw2, hfar⟩ := decode_far s i hi (by omega)
        have hnx := fun ty => Lib.run_next_any_at (P := Tryz.prog) wr w.heap.size s i ty hk hi
        simp only [hde] at hnx
        have HR := Lib.hid (fun W => rune_far r W hr)
        have HB2 := Lib.hid (Lib.below_iterAt HB.out (Nat.le_refl w.heap.size) s (i + wd))
        have HK2 := Lib.hid (Lib.iterAt_heap wr w.heap.size s i (i + wd) HK.out)
        have HN2 := Lib.hid (noAny_far wd i HN.out hw2 hfar)
        have hlt := (Array.getElem?_eq_some_iff.1 HK2.out).1
        have HLT : Hid (w.heap.size < (wr.iterAt w.heap.size s (i + wd)).heap.size) := hlt
        clear hk hfar hde hlow hlt
        go_wp2_with (go_at_call 138; (with_reducible refine (HR.out _).mono ?_); rintro e w' ⟨rfl, hb2⟩; have HB3 := Lib.hid hb2; clear hb2)
        go_roundg (s.size - (i + wd))
        case measure => omega
        case rel => exact ⟨i + wd, by omega, (HB3.out.block _ HLT.out).trans HK2.out, HB2.out.trans (HB3.out.mono (Nat.le_of_lt HLT.out)), HN2.out⟩
    · obtain rfl : i = s.size := by omega
      have hnx := fun ty => Lib.run_next_end_at (P := Tryz.prog) wr w.heap.size s s.size ty hk (by omega)
      clear hk
      go_wp2
      go_ret
      exact ⟨by rw [Lib.indexAny_none (by rw [← Lib.size_eq]; exact HN.out)]; rfl, HB.out⟩
theorem zero_set : ∀ w, (zeroValue 200).run Tryz.prog w = .ok (.agg (Array.replicate 256 (.bool false))) w := by intro w; kernel_rfl
theorem sep_ascii : ∀ (j : Nat) b, (⟨#[32, 93, 125]⟩ : ByteArray).data.toList[j]? = some b → b.toNat < 128 := fun j b hb => by
  have hm := List.mem_of_getElem? hb
  have hm2 : b ∈ ([32, 93, 125] : List UInt8) := hm
  simp at hm2
  rcases hm2 with rfl | rfl | rfl <;> decide
set_option maxRecDepth 100000 in
set_option maxHeartbeats 8000000 in
theorem index_long (s : ByteArray) (w : World) (h8 : 8 < s.size) (hs : s.size ≤ 140737488355328) :
    Calls Tryz.prog 123 #[.string s, .string ⟨#[32, 93, 125]⟩] w fun e w' => e = .returned (.int .i64 (Lib.indexAny s.data.toList [32, 93, 125])) ∧ Below w.heap.size w w' := by
  have HM := Lib.hid (Tryz.strings_makeASCIISet zero_set ⟨#[32, 93, 125]⟩ w (by decide) sep_ascii)
  have h8z : decide ((8 : Int) < (s.size : Int)) = true := decide_eq_true (by omega)
  have HU := Lib.hid (Tryz.strings_shouldUseASCIISet (s.size : Int) w)
  rw [h8z] at HU
  obtain ⟨C, hC⟩ : ∃ C, Lib.setCells (⟨#[32, 93, 125]⟩ : ByteArray).data.toList = C := ⟨_, rfl⟩
  have hCs : C.size = 256 := by rw [← hC]; exact Lib.setCells_size _
  have hC1 := Lib.setCells_one (⟨#[32, 93, 125]⟩ : ByteArray).data.toList
  have HCat : Hid (∀ x : UInt8, C[x.toNat]? = some (.bool (([32, 93, 125] : List UInt8).contains x))) := fun x => by rw [← hC]; exact Lib.setCells_at _ x
  rw [hC] at HM hC1
  clear hC
  have hz := zero_set
  have g1 : (s.size : Int) ≤ 140737488355328 := by omega
  go_enter Tryz.func123, Tryz.ntmps123
  go_wp2_with (first
    | (go_at_call 139; (with_reducible refine HU.out.mono ?_); rintro e w' ⟨rfl, hw⟩; obtain rfl : w = w' := hw.symm)
    | (go_at_call 140; (with_reducible refine HM.out.mono ?_); rintro e w' ⟨rfl, hw⟩; obtain ⟨w1, hw1⟩ : ∃ w1, w.alloc (.cells C 200) = w1 := ⟨_, rfl⟩; rw [hw1] at hw; obtain rfl : w1 = w' := hw.symm))
  have hsc := run_storeCells_new (P := Tryz.prog) w1 200 (Array.replicate 256 (.bool false)) C (by rw [hCs]; kernel_rfl) (by rw [hCs, Array.size_replicate]) hC1
  simp only [Result.andThen, ↓reduceIte, hsc]
  rw [Oper.upon_skip]
  obtain ⟨W2, hW2⟩ : ∃ W2, w1.alloc (.cells C 200) = W2 := ⟨_, rfl⟩
  have HB2 : Hid (Below w.heap.size w W2) := by rw [← hW2, ← hw1]; exact Lib.hid (((Below.refl _ _).alloc (Nat.le_refl _) _).alloc (by simp) _)
  have HC : Hid (∀ x : UInt8, W2.cell? ⟨w1.heap.size, x.toNat, none⟩ = some (.bool (([32, 93, 125] : List UInt8).contains x))) := fun x => by
    rw [← hW2, World.cell?_alloc_at _ _ _ _ rfl, HCat.out]
  try rw [hW2]
  clear hsc hCs hC1 HCat hz hW2 hw1 HM HU h8z h8
  go_wp2
  go_loopw [8] (fun i wr => ∃ j : Nat, i = .int .i64 j ∧ j ≤ s.size ∧ wr = W2 ∧ Lib.NoAny s.data.toList [32, 93, 125] j) (fun i _ => s.size - (intOf i).toNat)
  case atStart => exact ⟨0, rfl, Nat.zero_le _, rfl, Lib.NoAny.zero _ _⟩
  case round =>
    obtain ⟨j, rfl, hj, rfl, hno⟩ := hrel
    have HN := Lib.hid hno
    clear hno
    by_cases hlt : j < s.size
    · have i1 : (j : Int) < (s.size : Int) := by omega
      have i0 : (0 : Int) ≤ (j : Int) := by omega
      obtain ⟨x, hx⟩ : ∃ x : UInt8, s[j]'hlt = x := ⟨_, rfl⟩
      have HX : Hid (s.data.toList[j]? = some x) := (Lib.data_getElem? s j hlt).trans (by rw [hx])
      have HK := Lib.hid (Tryz.asciiSet_contains w1.heap.size x _ wr (HC.out x))
      cases hin : ([32, 93, 125] : List UInt8).contains x
      · rw [hin] at HK
        go_wp2_with (go_at_call 141; (with_reducible refine HK.out.mono ?_); rintro e w' ⟨rfl, rfl⟩)
        go_roundw
        case rel => exact ⟨j + 1, by go_num, by omega, by trivial, HN.out.succ HX.out hin⟩
        case measure => simp [intOf]; try omega
      · rw [hin] at HK
        go_wp2_with (go_at_call 141; (with_reducible refine HK.out.mono ?_); rintro e w' ⟨rfl, rfl⟩)
        go_ret
        exact ⟨by rw [Lib.indexAny_hit HN.out HX.out hin]; rfl, HB2.out⟩
    · obtain rfl : s.size = j := by omega
      have hn : ¬ (s.size : Int) < (s.size : Int) := by omega
      go_wp2
      go_ret
      exact ⟨by rw [Lib.indexAny_none (by rw [← Lib.size_eq]; exact HN.out)]; rfl, HB2.out⟩
/-- Whatever the text's bytes are. -/
theorem index_any (s : ByteArray) (w : World) (hs : s.size ≤ 140737488355328) :
    Calls Tryz.prog 123 #[.string s, .string ⟨#[32, 93, 125]⟩] w fun e w' => e = .returned (.int .i64 (Lib.indexAny s.data.toList [32, 93, 125])) ∧ Below w.heap.size w w' := by
  rcases Nat.lt_or_ge 8 s.size with h | h
  · exact index_long s w h hs
  · exact index_short s w h
end Go.Proofs.YtdlmemalefhgmaaGreatDoor
