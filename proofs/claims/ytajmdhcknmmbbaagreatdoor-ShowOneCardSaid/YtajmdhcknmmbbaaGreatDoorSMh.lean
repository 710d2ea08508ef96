/-
  Walks: alive of the laws answers true.
  Conditions: the tables hold what the program's text lays in them.
  Walks: alive of the laws answers true.
  Conditions: the tables hold what the program's text lays in them.
  Walks: ShowOne answers true.
  Conditions: the tables hold what the program's text lays in them.
-/
import Derived.Test.YtajmdhcknmmbbaaGreatDoorSMg
namespace Go.Proofs.YtajmdhcknmmbbaaGreatDoor.Sh
set_option linter.unusedVariables false
set_option linter.unusedSimpArgs false
open Go.Proofs.YtajmdhcknmmbbaaGreatDoor Go.ChangeShapes Go.WideShapes Go.RowKit Go.Deep

theorem doc_cells {w : World} {K : Nat → N} {a : Option Addr} {c : Nat} (h : Clean w 2 K docD a c) : ∃ b o b2 o2 c2, a = some ⟨b, o, none⟩ ∧ w.cell? ⟨b, o, none⟩ = some (.int .i64 0) ∧ w.cell? ⟨b, o + 4, none⟩ = some (.slice (some ⟨b2, o2, none⟩) 1 c2) ∧ w.cell? ⟨b2, o2 + 2, none⟩ = some (.string ⟨#[104, 105]⟩) := by
  obtain ⟨⟨b, o, e, hat⟩, hin⟩ := h.inn 0 (by decide)
  have hm := h.may 0 (by decide)
  have hz := h.zero 0 (by decide)
  have hc : (K 0).con ((K 1).con .nil) = docD := h.con
  generalize K 0 = x at hat hin hm hz hc
  cases x with
  | leaf => exact hin.elim
  | mk id tag text aa al ac an A ka kl kc K' =>
    obtain ⟨rfl, -⟩ := hz
    simp only [N.may, Bool.and_eq_true] at hm
    have hk := fun i (hi : i < kl) => allB_true.1 hm.2 i hi
    simp only [N.con] at hc
    split at hc
    · cases hc
    · injection hc with c1 c2 c3 c4
      have hkl : kl = 1 := by
        have := congrArg D.len c3
        rwa [conTo_len K' kl _ hk] at this
      subst hkl
      obtain ⟨⟨b2, o2, e2, hat2⟩, hin2⟩ := hin.2.2.2.2.2.2 0 (by decide)
      have c3 : (K' 0).con .nil = .txt [104, 105] .nil := c3
      generalize K' 0 = y at hat2 hin2 c3
      cases y with
      | leaf => exact hin2.elim
      | mk id2 tag2 text2 aa2 al2 ac2 an2 A2 ka2 kl2 kc2 K2 =>
        simp only [N.con] at c3
        split at c3
        · injection c3 with d1 d2
          have ht : text2 = ⟨#[104, 105]⟩ := ba_ext d1
          subst ht e2
          refine ⟨b, o, b2, o2, kc, e, ?_, ?_, ?_⟩
          · exact hat 0 (by simp [N.cells])
          · have := hat 4 (by simp [N.cells]); simpa [N.cells] using this
          · have := hat2 2 (by simp [N.cells]); simpa [N.cells] using this
        · cases c3
/-- The nodes that alive lays. -/
def kidN : N := .mk 4 ⟨#[]⟩ ⟨#[104, 105]⟩ none 0 0 (fun _ => ⟨#[]⟩) (fun _ => .leaf) none 0 0 (fun _ => .leaf)
def txtN : N := .mk 0 ⟨#[]⟩ ⟨#[120]⟩ none 0 0 (fun _ => ⟨#[]⟩) (fun _ => .leaf) none 0 0 (fun _ => .leaf)
def divN (b : Nat) : N := .mk 3 ⟨#[100, 105, 118]⟩ ⟨#[]⟩ (some ⟨b, 0, none⟩) 1 1 (fun _ => ⟨#[105, 100]⟩) (fun _ => vp (.num 5)) (some ⟨b + 1, 0, none⟩) 1 1 (fun _ => kidN)
def docK (b : Nat) : Nat → N
  | 0 => divN b
  | _ + 1 => txtN
theorem may_txt (id : Int) (s : ByteArray) (hs : s.size ≤ 4096) : (N.mk id ⟨#[]⟩ s none 0 0 (fun _ => ⟨#[]⟩) (fun _ => .leaf) none 0 0 (fun _ => .leaf)).may = true := by
  simp only [N.may, textB, emp_list, decide_eq_true hs]
  rfl
theorem docMay (b : Nat) : ∀ i, i < 2 → (docK b i).may = true := by
  intro i hi
  cases i with
  | zero =>
    show ((textB ⟨#[100, 105, 118]⟩ ⟨#[]⟩ 1 1 || (nameB ⟨#[100, 105, 118]⟩ && (((⟨#[]⟩ : ByteArray).toList == []) && allB 1 (aOk (fun _ => ⟨#[105, 100]⟩) (fun _ => vp (.num 5)))))) && allB 1 (fun _ => kidN.may)) = true
    have h1 : kidN.may = true := may_txt _ _ (by decide)
    have h2 : allB 1 (aOk (fun _ => ⟨#[105, 100]⟩) (fun _ => vp (.num 5))) = true := by
      rw [allB_true]
      intro j hj
      have : j = 0 := by omega
      subst this
      show (nameB ⟨#[105, 100]⟩ && (!notUp _ 0 && (V.pv (vp (.num 5))).isSome)) = true
      rw [nameB_eq, vp_num]; rfl
    have h3 : nameB ⟨#[100, 105, 118]⟩ = true := by rw [nameB_eq]; rfl
    rw [h2, emp_list, h3, allB_true.2 (fun _ _ => h1)]
    simp
  | succ i => exact may_txt _ _ (by decide)
theorem tl_ne (a : UInt8) (l : List UInt8) : ((⟨(a :: l).toArray⟩ : ByteArray).toList == []) = false := by rw [Lib.toList_data]; rfl
theorem docCon (b : Nat) : conTo 2 (fun i => (docK b i).con) .nil = docD := by
  show (divN b).con (txtN.con .nil) = docD
  have h1 : txtN.con .nil = .txt [120] .nil := by
    show (if ((⟨#[]⟩ : ByteArray).toList == []) = true then _ else _) = _
    rw [if_pos emp_list]
  have h2 : kidN.con .nil = .txt [104, 105] .nil := by
    show (if ((⟨#[]⟩ : ByteArray).toList == []) = true then _ else _) = _
    rw [if_pos emp_list]
  rw [h1]
  show (if ((⟨#[100, 105, 118]⟩ : ByteArray).toList == []) = true then _ else D.host _ (aL 1 (fun _ => ⟨#[105, 100]⟩) (fun _ => vp (.num 5))) (conTo 1 (fun _ => kidN.con) .nil) _) = _
  rw [if_neg (by rw [show (⟨#[100, 105, 118]⟩ : ByteArray) = ⟨(100 :: [105, 118]).toArray⟩ from rfl, tl_ne]; exact Bool.false_ne_true)]
  rw [show conTo 1 (fun _ => kidN.con) .nil = kidN.con .nil from rfl, h2]
  simp only [aL, vp_num]
  rfl
theorem docIn {W : World} {b : Nat} (h0 : W.heap[b]? = some (.cells #[.string ⟨#[105, 100]⟩, .int .u8 1, .int .i64 5, .string ⟨#[]⟩, .slice none 0 0, .slice none 0 0, .int .u8 0, .string ⟨#[]⟩, .bool false] 68 (0, 0)))
    (h1 : W.heap[b + 1]? = some (.cells #[.int .i64 4, .string ⟨#[]⟩, .string ⟨#[104, 105]⟩, .slice none 0 0, .slice none 0 0] 58 (0, 0)))
    (h2 : W.heap[b + 2]? = some (.cells #[.int .i64 3, .string ⟨#[100, 105, 118]⟩, .string ⟨#[]⟩, .slice (some ⟨b, 0, none⟩) 1 1, .slice (some ⟨b + 1, 0, none⟩) 1 1, .int .i64 0, .string ⟨#[]⟩, .string ⟨#[120]⟩, .slice none 0 0, .slice none 0 0] 58 (0, 0))) :
    NsIn W (some ⟨b + 2, 0, none⟩) 2 (docK b) := by
  have small : (3 : Nat) ≤ maxLen := by decide
  intro i hi
  cases i with
  | zero =>
    refine ⟨⟨b + 2, 0, rfl, fun j hj => ?_⟩, ⟨⟨by decide, by decide⟩, small, by decide, ⟨Nat.le_refl _, by decide⟩, ⟨Nat.le_refl _, by decide⟩, fun i hi => ?_, fun i hi => ?_⟩⟩
    · have hj : j < 5 := hj
      rw [Lib.cell_of_heap h2]
      rcases (by omega : j = 0 ∨ j = 1 ∨ j = 2 ∨ j = 3 ∨ j = 4) with rfl | rfl | rfl | rfl | rfl <;> rfl
    · have : i = 0 := by omega
      subst this
      refine ⟨⟨b, 0, rfl, fun j hj => ?_⟩, by decide, vp_in (p := .num 5) ⟨by decide, by decide⟩⟩
      have hj : j < 9 := hj
      rw [Lib.cell_of_heap h0]
      rcases (by omega : j = 0 ∨ j = 1 ∨ j = 2 ∨ j = 3 ∨ j = 4 ∨ j = 5 ∨ j = 6 ∨ j = 7 ∨ j = 8) with rfl | rfl | rfl | rfl | rfl | rfl | rfl | rfl | rfl <;> rfl
    · have : i = 0 := by omega
      subst this
      refine ⟨⟨b + 1, 0, rfl, fun j hj => ?_⟩, ⟨⟨by decide, by decide⟩, by decide, by decide, ⟨Nat.le_refl _, by decide⟩, ⟨Nat.le_refl _, by decide⟩, fun i hi => by omega, fun i hi => by omega⟩⟩
      have hj : j < 5 := hj
      rw [Lib.cell_of_heap h1]
      rcases (by omega : j = 0 ∨ j = 1 ∨ j = 2 ∨ j = 3 ∨ j = 4) with rfl | rfl | rfl | rfl | rfl <;> rfl
  | succ i =>
    have : i = 0 := by omega
    subst this
    refine ⟨⟨b + 2, 0, rfl, fun j hj => ?_⟩, ⟨⟨by decide, by decide⟩, by decide, by decide, ⟨Nat.le_refl _, by decide⟩, ⟨Nat.le_refl _, by decide⟩, fun i hi => by omega, fun i hi => by omega⟩⟩
    have hj : j < 5 := hj
    rw [Lib.cell_of_heap h2]
    rcases (by omega : j = 0 ∨ j = 1 ∨ j = 2 ∨ j = 3 ∨ j = 4) with rfl | rfl | rfl | rfl | rfl <;> rfl
end Go.Proofs.YtajmdhcknmmbbaaGreatDoor.Sh
namespace Go.Proofs.YtajmdhcknmmbbaaGreatDoor.Sh
set_option linter.unusedVariables false
set_option linter.unusedSimpArgs false
open Go.Proofs.YtajmdhcknmmbbaaGreatDoor Go.ChangeShapes Go.WideShapes Go.RowKit Go.Deep

abbrev docBA : ByteArray := ⟨#[40, 34, 100, 105, 118, 34, 32, 123, 34, 105, 100, 34, 32, 53, 125, 32, 91, 34, 104, 105, 34, 93, 41, 32, 34, 120, 34]⟩
theorem docText (b : Nat) : textN 2 (docK b) = docS := by
  unfold textN
  rw [if_pos (allB_true.2 (docMay b)), ← tx_all (docK b) 2 (docMay b), docCon, docTx]
set_option maxRecDepth 100000 in
set_option maxHeartbeats 8000000 in
theorem alive_any (w : World) (ht : Tabs w) (hst : STabs w) : Calls Tryz.prog 22 #[] w fun x w' => x = .returned (.bool true) ∧ Below w.heap.size w w' := by
  obtain ⟨b, hb⟩ : ∃ b, w.heap.size = b := ⟨_, rfl⟩
  obtain ⟨W1, hW1⟩ : ∃ W1, ((w.alloc (.cells #[.string ⟨#[105, 100]⟩, .int .u8 1, .int .i64 5, .string ⟨#[]⟩, .slice none 0 0, .slice none 0 0, .int .u8 0, .string ⟨#[]⟩, .bool false] 68)).alloc (.cells #[.int .i64 4, .string ⟨#[]⟩, .string ⟨#[104, 105]⟩, .slice none 0 0, .slice none 0 0] 58)).alloc (.cells #[.int .i64 3, .string ⟨#[100, 105, 118]⟩, .string ⟨#[]⟩, .slice (some ⟨w.heap.size, 0, none⟩) 1 1, .slice (some ⟨w.heap.size + 1, 0, none⟩) 1 1, .int .i64 0, .string ⟨#[]⟩, .string ⟨#[120]⟩, .slice none 0 0, .slice none 0 0] 58) = W1 := ⟨_, rfl⟩
  have hB0 : Below w.heap.size w W1 := by rw [← hW1]; exact (((Below.refl _ _).alloc (Nat.le_refl _) _).alloc (by simp) _).alloc (by simp; omega) _
  have hz1 : W1.heap.size = b + 3 := by rw [← hW1, ← hb]; simp
  have k0 : W1.heap[b]? = some (.cells #[.string ⟨#[105, 100]⟩, .int .u8 1, .int .i64 5, .string ⟨#[]⟩, .slice none 0 0, .slice none 0 0, .int .u8 0, .string ⟨#[]⟩, .bool false] 68 (0, 0)) := by
    rw [← hW1, ← hb]; exact al_old _ (al_old _ (al_new _ rfl))
  have k1 : W1.heap[b + 1]? = some (.cells #[.int .i64 4, .string ⟨#[]⟩, .string ⟨#[104, 105]⟩, .slice none 0 0, .slice none 0 0] 58 (0, 0)) := by
    rw [← hW1, ← hb]; exact al_old _ (al_new _ (by simp))
  have k2 : W1.heap[b + 2]? = some (.cells #[.int .i64 3, .string ⟨#[100, 105, 118]⟩, .string ⟨#[]⟩, .slice (some ⟨b, 0, none⟩) 1 1, .slice (some ⟨b + 1, 0, none⟩) 1 1, .int .i64 0, .string ⟨#[]⟩, .string ⟨#[120]⟩, .slice none 0 0, .slice none 0 0] 58 (0, 0)) := by
    rw [← hW1, ← hb]; exact al_new _ (by simp)
  have hin := docIn k0 k1 k2
  have HB0 : Hid (Below b w W1) := Lib.hid (by rw [← hb]; exact hB0)
  have hlow : ∀ W, Below W1.heap.size W1 W → Below w.heap.size w W := fun W h => hB0.trans (h.mono hB0.size)
  have HRD := Lib.hid (fun W (h : Below W1.heap.size W1 W) => read_doc W (ht.below (hlow W h)) (hst.below (hlow W h)))
  have HRB := Lib.hid (fun W (h : Below W1.heap.size W1 W) => read_bad W (ht.below (hlow W h)) (hst.below (hlow W h)))
  have HTX : Hid (∀ W, Below W1.heap.size W1 W → Calls Tryz.prog 14 #[.slice (some ⟨b + 1 + 1, 0, none⟩) 2 2] W fun e w' => e = .returned (.string docBA) ∧ Below W.heap.size W w') := Lib.hid fun W h => by
    have := text_show (some ⟨b + 2, 0, none⟩) 2 2 (docK b) W (hin.below h) ⟨by decide, by decide⟩ (ht.below (hlow W h)) (by rw [docText]; decide)
    rw [docText] at this
    exact this
  have HBR : Hid (∀ W, Below W1.heap.size W1 W → Calls Tryz.prog 12 #[.slice (some ⟨b + 1 + 1, 0, none⟩) 2 2] W fun e w' => ∃ a' c' K', e = .returned (.slice a' 2 c') ∧ Clean w' 2 K' docD a' c' ∧ Below W.heap.size W w') := Lib.hid fun W h => by
    have := bare_nodes (some ⟨b + 2, 0, none⟩) 2 2 (docK b) W (hin.below h) ⟨by decide, by decide⟩ (docMay b) (by rw [← tx_all (docK b) 2 (docMay b), docCon, docTx]; decide)
    rw [docCon] at this
    exact this
  have HSM : Hid (∀ W a c K a' c' K', Clean W 2 K docD a c → Clean W 2 K' docD a' c' → Calls Tryz.prog 16 #[.slice a 2 c, .slice a' 2 c'] W fun x w' => x = .returned (.bool true) ∧ Below W.heap.size W w') := Lib.hid fun W a c K a' c' K' h h' => by
    have := sameNodes_any W a a' 2 c 2 c' K K' h.lc h'.lc h.inn h'.inn
    rw [list_same (fun i hi => ⟨h.may i hi, h.zero i hi⟩) (fun i hi => ⟨h'.may i hi, h'.zero i hi⟩) (h.con.trans h'.con.symm)] at this
    exact this
  have HLAST : Hid (∀ W a c K, Below W1.heap.size W1 W → Clean W 2 K docD a c → Calls Tryz.prog 14 #[.slice (some ⟨W.heap.size, 0, none⟩) 1 1] (W.alloc (.cells #[.int .i64 0, .string ⟨#[]⟩, .string ⟨#[120]⟩, .slice none 0 0, .slice a 2 c] 58)) fun e w' => e = .returned (.string ⟨#[]⟩) ∧ Below W.heap.size W w') := Lib.hid fun W a c K h hc => by
    have hba : Below W.heap.size W (W.alloc (.cells #[.int .i64 0, .string ⟨#[]⟩, .string ⟨#[120]⟩, .slice none 0 0, .slice a 2 c] 58)) := (Below.refl _ _).alloc (Nat.le_refl _) _
    have hnm : textN 1 (fun _ => .mk 0 ⟨#[]⟩ ⟨#[120]⟩ none 0 0 (fun _ => ⟨#[]⟩) (fun _ => .leaf) a 2 c K) = [] := by
      unfold textN
      rw [if_neg]
      rw [Bool.not_eq_true]
      refine allB_false (k := 0) (by decide) ?_
      have h1 : nameB ⟨#[]⟩ = false := by rw [nameB_eq]; rfl
      simp only [N.may, textB, hostB, h1, emp_list]
      simp
    have hns : NsIn (W.alloc (.cells #[.int .i64 0, .string ⟨#[]⟩, .string ⟨#[120]⟩, .slice none 0 0, .slice a 2 c] 58)) (some ⟨W.heap.size, 0, none⟩) 1 (fun _ => .mk 0 ⟨#[]⟩ ⟨#[120]⟩ none 0 0 (fun _ => ⟨#[]⟩) (fun _ => .leaf) a 2 c K) := fun i hi => by
      have : i = 0 := by omega
      subst this
      refine ⟨⟨W.heap.size, 0, rfl, fun j hj => ?_⟩, ⟨⟨by decide, by decide⟩, by decide, by decide, ⟨Nat.le_refl _, by decide⟩, hc.lc, fun i hi => by omega, hc.inn.below hba⟩⟩
      have hj : j < 5 := hj
      rw [Lib.cell_of_heap (heap_alloc_new W _)]
      rcases (by omega : j = 0 ∨ j = 1 ∨ j = 2 ∨ j = 3 ∨ j = 4) with rfl | rfl | rfl | rfl | rfl <;> rfl
    have := text_show (some ⟨W.heap.size, 0, none⟩) 1 1 _ _ hns ⟨by decide, by decide⟩ ((ht.below (hlow W h)).below hba) (by rw [hnm]; decide)
    rw [hnm] at this
    refine this.mono fun e w' h => ⟨h.1, hba.trans (h.2.mono hba.size)⟩
  have HLOW := Lib.hid hlow
  have HDC := Lib.hid (fun W a c K (h : Clean W 2 K docD a c) => doc_cells h)
  clear hin k0 k1 k2 hlow hB0 hz1
  rw [hb] at hW1
  go_enter Tryz.func22, Tryz.ntmps22
  go_upto_region 3 with fail
  try rw [hW1]
  clear hW1
  go_upto_region 5 with (first
    | (go_at_call 20; (with_reducible refine (HRD.out _ (Below.refl _ _)).mono ?_); rintro e3 w3 ⟨a3, c3, K3, rfl, hc3, hb3⟩)
    | (go_at_call 20; (with_reducible refine (HRB.out _ hb3).mono ?_); rintro e4 w4 ⟨rfl, hb4⟩))
  have hb14 := hb3.trans (hb4.mono hb3.size)
  have hc4 := hc3.below hb4
  clear hc3
  go_wp2_with (first
    | (go_at_call 14; (with_reducible refine (HTX.out _ hb14).mono ?_); rintro e5 w5 ⟨rfl, hb5⟩; have hb15 := hb14.trans (hb5.mono hb14.size); have hc5 := hc4.below hb5)
    | (go_at_call 12; (with_reducible refine (HBR.out _ hb15).mono ?_); rintro e6 w6 ⟨a6, c6, K6, rfl, hc6, hb6⟩; have hb16 := hb15.trans (hb6.mono hb15.size); have hm6 := hc5.below hb6)
    | (go_at_call 16; (with_reducible refine (HSM.out _ _ _ _ _ _ _ hm6 hc6).mono ?_); rintro e7 w7 ⟨rfl, hb7⟩; have hb17 := hb16.trans (hb7.mono hb16.size); have hm7 := hm6.below hb7; obtain ⟨xb, xo, yb, yo, yc, rfl, p0, p4, p2⟩ := HDC.out _ _ _ _ hm7)
    | (go_at_call 14; (with_reducible refine (HLAST.out _ _ _ _ hb17 hm7).mono ?_); rintro e8 w8 ⟨rfl, hb8⟩))
  go_ret
  exact ⟨rfl, (HLOW.out _ hb17).trans (hb8.mono (HLOW.out _ hb17).size)⟩
end Go.Proofs.YtajmdhcknmmbbaaGreatDoor.Sh
namespace Go.Proofs.YtajmdhcknmmbbaaGreatDoor.Sh
set_option linter.unusedVariables false
set_option linter.unusedSimpArgs false
open Go.Proofs.YtajmdhcknmmbbaaGreatDoor Go.ChangeShapes Go.WideShapes Go.RowKit Go.Deep

theorem rd_nil : rdR [] = some (.nil, []) := rfl
theorem may_of {r r' : Str} {d : D} {n : Nat} {K : Nat → N} (h1 : rdR r = some (d, r')) (h2 : textN n K = r) (h3 : n = d.len) : ∀ i, i < n → (K i).may = true := by
  by_cases h0 : r = []
  · subst h0
    rw [rd_nil] at h1
    injection h1 with h1
    injection h1 with h1
    subst h1
    intro i hi
    rw [h3] at hi
    exact absurd hi (Nat.not_lt_zero _)
  · unfold textN at h2
    split at h2
    · rename_i hm; exact allB_true.1 hm
    · exact absurd h2.symm h0

set_option maxRecDepth 100000 in
set_option maxHeartbeats 8000000 in
theorem showOne_any (s : ByteArray) (w : World) (ht : Tabs w) (hst : STabs w) : Calls Tryz.prog 6 #[.string s] w fun x w' => x = .returned (.bool true) ∧ Below w.heap.size w w' := by
  have HAL := Lib.hid (fun W (h : Below w.heap.size w W) => alive_any W (ht.below h) (hst.below h))
  by_cases hs : s.size ≤ 131072
  · have g1 : ¬ (131072 : Int) < (s.size : Int) := by omega
    have HRD := Lib.hid (fun W (h : Below w.heap.size w W) => read_any s W (by omega) (ht.below h) (hst.below h))
    have HTX : Hid (∀ W (a : Option Addr) (n c : Nat) (K : Nat → N), Below w.heap.size w W → NsIn W a n K → (n ≤ c ∧ c ≤ maxLen) → textN n K = s.data.toList → Calls Tryz.prog 14 #[.slice a n c] W fun e w' => e = .returned (.string s) ∧ Below W.heap.size W w') := Lib.hid fun W a n c K h hns hlc htx => by
      have := text_show a n c K W hns hlc (ht.below h) (by rw [htx]; simp; omega)
      rw [htx, ba_self] at this
      exact this
    have HSM : Hid (∀ W n a c K a' c' K' d, Clean W n K d a c → Clean W n K' d a' c' → Calls Tryz.prog 16 #[.slice a n c, .slice a' n c'] W fun x w' => x = .returned (.bool true) ∧ Below W.heap.size W w') := Lib.hid fun W n a c K a' c' K' d h h' => by
      have := sameNodes_any W a a' n c n c' K K' h.lc h'.lc h.inn h'.inn
      rw [list_same (fun i hi => ⟨h.may i hi, h.zero i hi⟩) (fun i hi => ⟨h'.may i hi, h'.zero i hi⟩) (h.con.trans h'.con.symm)] at this
      exact this
    go_enter Tryz.func6, Tryz.ntmps6
    go_upto_region 3 with (go_at_call 22; (with_reducible refine (HAL.out _ (Below.refl _ _)).mono ?_); rintro e1 w1 ⟨rfl, hb1⟩)
    have HR1 := Lib.hid (HRD.out _ hb1)
    go_upto_region 4 with (go_at_call 20; (with_reducible refine HR1.out.mono ?_); rintro e2 w2 ⟨hb2, ⟨rfl, hbad⟩ | ⟨d, r', a, n, c, K, h1, rfl, h2, h3, h4, h5, h6, h7, rfl⟩⟩)
    · have hne : ¬ s.data.toList = [] := fun e => by
        rw [e] at hbad
        exact hbad .nil [] rd_nil ⟨trivial, rfl⟩
      have e1 : (s.toList == []) = false := by rw [Lib.toList_data]; simpa using hne
      have e2 : (s.toList != []) = true := by rw [Lib.toList_data]; simpa using hne
      have e3 : s.toList.isEmpty = false := by rw [Lib.toList_data]; simpa using hne
      clear hbad hne
      go_wp2_with fail
      go_ret
      exact ⟨rfl, hb1.trans (hb2.mono hb1.size)⟩
    · have hm := may_of h1 h6 rfl
      have htx : (sepTo d.len (fun i => (K i).tx)).length ≤ 1073741824 := by
        have : textN d.len K = sepTo d.len (fun i => (K i).tx) := by rw [textN, if_pos (allB_true.2 hm)]
        rw [← this, h6]; simp; omega
      have hc2 : Clean w2 d.len K (conTo d.len (fun i => (K i).con) .nil) a c := ⟨h2, h3, hm, h4, rfl⟩
      have hb12 := hb1.trans (hb2.mono hb1.size)
      have HT2 := Lib.hid (HTX.out w2 a d.len c K hb12 h3 h2 h6)
      have HBR : Hid (∀ W, Below w2.heap.size w2 W → Calls Tryz.prog 12 #[.slice a d.len c] W fun e w' => ∃ a' c' K', e = .returned (.slice a' d.len c') ∧ Clean w' d.len K' (conTo d.len (fun i => (K i).con) .nil) a' c' ∧ Below W.heap.size W w') := Lib.hid fun W h => bare_nodes a d.len c K W (h3.below h) h2 hm htx
      clear h1 h3 h4 h5 h6 h7 htx hm
      have e5 : (s.toList == s.toList) = true := by simp
      go_wp2_with (first
        | (go_at_call 14; (with_reducible refine HT2.out.mono ?_); rintro e5 w5 ⟨rfl, hb5⟩; have hc5 := hc2.below hb5)
        | (go_at_call 12; (with_reducible refine (HBR.out _ hb5).mono ?_); rintro e6 w6 ⟨a6, c6, K6, rfl, hc6, hb6⟩; have hm6 := hc5.below hb6)
        | (go_at_call 16; (with_reducible refine (HSM.out _ _ _ _ _ _ _ _ _ hc6 hm6).mono ?_); rintro e7 w7 ⟨rfl, hb7⟩))
      go_ret
      exact ⟨rfl, ((hb12.trans (hb5.mono hb12.size)).trans (hb6.mono (hb12.trans (hb5.mono hb12.size)).size)).trans (hb7.mono ((hb12.trans (hb5.mono hb12.size)).trans (hb6.mono (hb12.trans (hb5.mono hb12.size)).size)).size)⟩
  · have g1 : (131072 : Int) < (s.size : Int) := by omega
    go_enter Tryz.func6, Tryz.ntmps6
    go_wp2_with (first
      | (go_at_call 22; (with_reducible refine (HAL.out _ (Below.refl _ _)).mono ?_); rintro e1 w1 ⟨rfl, hb1⟩)
      | (go_at_call 22; (with_reducible refine (HAL.out _ hb1).mono ?_); rintro e2 w2 ⟨rfl, hb2⟩))
    go_ret
    exact ⟨rfl, hb1.trans (hb2.mono hb1.size)⟩
end Go.Proofs.YtajmdhcknmmbbaaGreatDoor.Sh
