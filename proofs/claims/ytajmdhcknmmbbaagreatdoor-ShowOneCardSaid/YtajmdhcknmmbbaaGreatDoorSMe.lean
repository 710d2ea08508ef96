/-
  Walks: the teller of documents' texts: between, quoted, attrs, node, nodes. What it writes is 'N.tx' of each, a blank between two.
  Conditions: what is told lies in memory; the three tables hold what the program's text lays in them; the text is no longer than Go lets a row of bytes be.
  Walks: the teller of documents' texts: attrs.
  Conditions: what is told lies in memory; the three tables hold what the program's text lays in them; the text is no longer than Go lets a row of bytes be.
  Walks: the teller of documents' texts: node, nodes; show.Text.
  Conditions: what is told lies in memory; the three tables hold what the program's text lays in them; the text is no longer than Go lets a row of bytes be.
-/
import Derived.Test.YtajmdhcknmmbbaaGreatDoorSMd
namespace Go.Proofs.YtajmdhcknmmbbaaGreatDoor.Sh
set_option linter.unusedVariables false
set_option linter.unusedSimpArgs false
open Go.Proofs.YtajmdhcknmmbbaaGreatDoor Go.RowKit Go.Deep

theorem vz3_check (s : ByteArray) : (vz 3 0 s).check = decide (s.size ≤ 4096) := by
  rw [Bool.eq_iff_iff, check_iff]
  simp [vz, V.shaped, shapeB, inRowB, inLimB, risingB, allB, emptyB, V.size, V.depth, sumTo, maxTo]
  exact ⟨fun h => h.2.1, fun h => ⟨rfl, h, by decide⟩⟩
theorem vz3_text (s : ByteArray) : (vz 3 0 s).text = ⟨(qT s).toArray⟩ := by
  rw [V.text, vz3_check, qT]
  by_cases h : s.size ≤ 4096
  · rw [decide_eq_true h, if_pos rfl, if_pos h]
    show (⟨(quotedL s.data.toList).toArray⟩ : ByteArray) = _
    rw [quoted_eq]
  · rw [decide_eq_false h, if_neg h, if_neg Bool.false_ne_true]

/-- The teller in block B has told l; w0 stands. -/
structure TT (w0 : World) (B : Nat) (l : Str) (W : World) : Prop where
  bt : PB.IsT 75 [] B (B + 1) l W
  base : w0.heap.size ≤ B
  low : Below w0.heap.size w0 W
section
variable {w0 : World} {B : Nat} {l : Str} {W W' : World}
theorem TT.below (h : TT w0 B l W) (hb : Below W.heap.size W W') : TT w0 B l W' :=
  ⟨isT_kp h.bt (Kp.of_below (X := fun _ => False) hb) (fun h => h) (fun _ _ h => h), h.base, h.low.trans (hb.mono h.low.size)⟩
theorem TT.wrote (h : TT w0 B l W) {x : Str} (hw : PB.Wrote 75 [] B (B + 1) l x W W') : TT w0 B (l ++ x) W' :=
  ⟨hw.1, h.base, h.low.trans ((hw.2.below (Nat.le_succ B)).mono h.base)⟩
end
theorem Tabs.from {w0 W : World} (h : Tabs w0) (hb : Below w0.heap.size w0 W) : Tabs W := Tabs.below h hb
def PostW (w0 : World) (B : Nat) (l x : Str) (e : Ending) (W' : World) : Prop := e = .returned (.tuple #[]) ∧ TT w0 B (l ++ x) W'

set_option maxRecDepth 100000 in
set_option maxHeartbeats 1000000 in
theorem between_any {w0 : World} {B : Nat} {l : Str} {W : World} (i : Nat) (h : TT w0 B l W) (hl : 0 < i → l.length + 1 ≤ 140737488355328) :
    Calls Tryz.prog 93 #[.pointer (some ⟨B, 0, none⟩), .int .i64 i] W (PostW w0 B l (if 0 < i then [32] else [])) := by
  have hbl := PB.lies_teller
  by_cases hi : 0 < i
  · rw [if_pos hi]
    have g : (0 : Int) < (i : Int) := by omega
    have HW : Hid (Calls Tryz.prog 145 #[.pointer (some ⟨B, 0, none⟩), .int .u8 32] W fun e w' => e = .returned (.nilIface) ∧ PB.Wrote 75 [] B (B + 1) l [32] W w') := Lib.hid (PB.writeB_any hbl (Nat.lt_succ_self _) l 32 _ h.bt (hl hi))
    go_enter Tryz.func93, Tryz.ntmps93
    go_wp2_with (go_at_call 145; (with_reducible refine HW.out.mono ?_); rintro e1 w1 ⟨rfl, hw1⟩)
    go_end0
    exact ⟨rfl, h.wrote hw1⟩
  · rw [if_neg hi]
    have g : ¬ (0 : Int) < (i : Int) := by omega
    go_enter Tryz.func93, Tryz.ntmps93
    go_wp2_with fail
    go_end0
    exact ⟨rfl, by rw [List.append_nil]; exact h⟩

theorem wbyte_32 {w0 : World} {B : Nat} {l : Str} {W : World} (h : TT w0 B l W) (hl : l.length + 1 ≤ 140737488355328) : Calls Tryz.prog 145 #[.pointer (some ⟨B, 0, none⟩), .int .u8 32] W fun e w' => e = .returned .nilIface ∧ TT w0 B (l ++ [32]) w' :=
  (PB.writeB_any PB.lies_teller (Nat.lt_succ_self _) l 32 _ h.bt hl).mono fun _ _ hw => ⟨hw.1, h.wrote hw.2⟩
theorem wbyte_40 {w0 : World} {B : Nat} {l : Str} {W : World} (h : TT w0 B l W) (hl : l.length + 1 ≤ 140737488355328) : Calls Tryz.prog 145 #[.pointer (some ⟨B, 0, none⟩), .int .u8 40] W fun e w' => e = .returned .nilIface ∧ TT w0 B (l ++ [40]) w' :=
  (PB.writeB_any PB.lies_teller (Nat.lt_succ_self _) l 40 _ h.bt hl).mono fun _ _ hw => ⟨hw.1, h.wrote hw.2⟩
theorem wstr_any {w0 : World} {B : Nat} {l : Str} {W : World} (s : ByteArray) (h : TT w0 B l W) (hl : l.length + s.data.toList.length ≤ 140737488355328) : Calls Tryz.prog 147 #[.pointer (some ⟨B, 0, none⟩), .string s] W fun e w' => e = .returned (.tuple #[.int .i64 s.size, .nilIface]) ∧ TT w0 B (l ++ s.data.toList) w' :=
  (PB.writeS_any PB.lies_teller (Nat.lt_succ_self _) l s _ h.bt hl).mono fun _ _ hw => ⟨hw.1, h.wrote hw.2⟩

set_option maxRecDepth 100000 in
set_option maxHeartbeats 1000000 in
theorem tquoted_any {w0 : World} {B : Nat} {l : Str} {W : World} (s : ByteArray) (hs : s.size ≤ maxLen) (h : TT w0 B l W) (ht : Tabs w0) (hl : l.length + (qT s).length ≤ 140737488355328) :
    Calls Tryz.prog 146 #[.pointer (some ⟨B, 0, none⟩), .string s] W (PostW w0 B l (qT s)) := by
  have hbl := PB.lies_teller
  have HT : Hid (∀ w, Below w0.heap.size w0 w → Calls Tryz.prog 168 #[.agg #[.int .u8 3, .int .i64 0, .string s, .slice none 0 0, .slice none 0 0, .int .u8 0, .string ⟨#[]⟩, .bool false]] w fun e w' => e = .returned (.string ⟨(qT s).toArray⟩) ∧ Below w.heap.size w w') := Lib.hid fun w hb => by
    have t := ht.below hb
    have := text_any (vz 3 0 s) w (vz_in w ⟨by decide, by decide⟩ ⟨by decide, by decide⟩ hs) t.1 t.2.1 t.2.2
    rw [vz3_text] at this
    exact this
  have HD := Lib.hid (h.below (W' := W.drew) (below_drewN W 1))
  have hd := HD.out.low
  have hql : l.length + (⟨(qT s).toArray⟩ : ByteArray).data.toList.length ≤ 140737488355328 := by rw [ba_list]; exact hl
  have HE : Hid (∀ w', TT w0 B (l ++ (⟨(qT s).toArray⟩ : ByteArray).data.toList) w' → TT w0 B (l ++ qT s) w') := Lib.hid fun w' h => by rw [ba_list] at h; exact h
  generalize (⟨(qT s).toArray⟩ : ByteArray) = qs at HT hql HE
  go_enter Tryz.func146, Tryz.ntmps146
  go_region_held3 (fun w => Below w0.heap.size w0 w)
    (first | with_reducible exact hd | with_reducible exact hd1 | with_reducible exact hd2)
    (first
      | (go_at_call 168; (with_reducible refine (HT.out _ hd).mono ?_); rintro e1 w1 ⟨rfl, hb1⟩; have h1 := HD.out.below hb1; have hd1 := h1.low; have H1 := Lib.hid h1)
      | (go_at_call 147; (with_reducible refine (PB.writeS_any hbl (Nat.lt_succ_self _) l qs _ H1.out.bt hql).mono ?_); rintro e2 w2 ⟨rfl, hw2⟩; have h2 := H1.out.wrote hw2; have hd2 := h2.low))
  all_goals (go_wp2_with fail)
  all_goals go_end0
  all_goals exact ⟨rfl, HE.out _ h2⟩
end Go.Proofs.YtajmdhcknmmbbaaGreatDoor.Sh
namespace Go.Proofs.YtajmdhcknmmbbaaGreatDoor.Sh
set_option linter.unusedVariables false
set_option linter.unusedSimpArgs false
open Go.Proofs.YtajmdhcknmmbbaaGreatDoor Go.RowKit Go.Deep

theorem sepTo_mono (f : Nat → List UInt8) : ∀ (n m : Nat), n ≤ m → (sepTo n f).length ≤ (sepTo m f).length
  | n, 0, h => by rw [Nat.le_zero.1 h]; exact Nat.le_refl _
  | n, m + 1, h => by
    rcases Nat.lt_or_ge m n with h1 | h1
    · rw [show n = m + 1 by omega]; exact Nat.le_refl _
    · have := sepTo_mono f n m h1
      rw [sepTo, List.length_append]; omega
theorem PostW.to {w0 : World} {B : Nat} {l x y : Str} {e : Ending} {W : World} (h : PostW w0 B (l ++ x) y e W) : PostW w0 B l (x ++ y) e W := by
  rw [PostW, List.append_assoc] at h; exact h

set_option maxRecDepth 100000 in
set_option maxHeartbeats 4000000 in
theorem tattrs_any {w0 : World} {B : Nat} {l : Str} {W : World} (aa : Option Addr) (al ac : Nat) (an : Nat → ByteArray) (A : Nat → V) (hA : FsIn w0 aa al an A) (hlc : al ≤ ac ∧ ac ≤ maxLen) (h : TT w0 B l W) (ht : Tabs w0) (hl : l.length + (sepTo al (aTx an A)).length ≤ 140737488355328) :
    Calls Tryz.prog 148 #[.pointer (some ⟨B, 0, none⟩), .slice aa al ac] W (PostW w0 B l (sepTo al (aTx an A))) := by
  unfold maxLen at hlc
  have hbl := PB.lies_teller
  have H := Lib.hid hA
  have H0 : Hid (TT w0 B (l ++ sepTo 0 (aTx an A)) W) := Lib.hid (by rw [sepTo, List.append_nil]; exact h)
  clear hA h
  go_enter Tryz.func148, Tryz.ntmps148
  go_wp2_with fail
  go_loopw [7] (fun i wr => ∃ k : Nat, k ≤ al ∧ i = .int .i64 k ∧ TT w0 B (l ++ sepTo k (aTx an A)) wr) (fun i _ => al - (intOf i).toNat)
  case atStart => exact ⟨0, Nat.zero_le _, rfl, H0.out⟩
  case round =>
    obtain ⟨k, hk, rfl, hrt⟩ := hrel
    by_cases hlt : k < al
    · obtain ⟨⟨b, o, rfl, hat⟩, hsz, hin⟩ := H.out k hlt
      have hT : ∀ w, Below w0.heap.size w0 w → Calls Tryz.prog 168 #[(A k).agg] w fun e w' => e = .returned (.string (A k).text) ∧ Below w.heap.size w w' := fun w hb => by
        have t := ht.below hb
        exact text_any (A k) w (hin.below hb) t.1 t.2.1 t.2.2
      have hX : ∀ W, Below w0.heap.size w0 W → At W b (o + k * 9) (.string (an k) :: (A k).cells) := fun W hb => hat.mono fun _ ha => hb.cell ha
      have hmono := sepTo_mono (aTx an A) (k + 1) al hlt
      have hstep : sepTo (k + 1) (aTx an A) = sepTo k (aTx an A) ++ ((if 0 < k then [32] else []) ++ (qT (an k) ++ (32 :: (A k).text.data.toList))) := rfl
      rw [hstep] at hmono
      simp only [List.length_append, List.length_cons] at hmono
      have HN : Hid (∀ wr', TT w0 B ((((l ++ sepTo k (aTx an A)) ++ (if 0 < k then [32] else [])) ++ qT (an k)) ++ [32] ++ (A k).text.data.toList) wr' → TT w0 B (l ++ sepTo (k + 1) (aTx an A)) wr') := Lib.hid fun wr' h => by
        rw [hstep]; simpa [List.append_assoc] using h
      obtain ⟨acc, hacc⟩ : ∃ acc, l ++ sepTo k (aTx an A) = acc := ⟨_, rfl⟩
      have hal : acc.length = l.length + (sepTo k (aTx an A)).length := by rw [← hacc, List.length_append]
      rw [hacc] at hrt HN
      have HB := Lib.hid (between_any (W := wr) k hrt (fun h0 => by rw [if_pos h0] at hmono; simp only [List.length_cons, List.length_nil] at hmono; omega))
      have hsl : (if 0 < k then ([32] : Str) else []).length + (acc.length + (qT (an k)).length + 1 + (A k).text.data.toList.length) ≤ 140737488355328 := by omega
      clear hat hstep hacc hal hmono hrt
      generalize (if 0 < k then ([32] : Str) else []) = sp at HN hsl HB
      generalize an k = nm at hX HN hsl hsz
      generalize A k = v at hX hT HN hsl hin
      cases v with
      | leaf => exact hin.elim
      | mk vk vn vs vla vll vlc vL vfa vfl vfc vfn vF ve vkey vhk =>
      clear hin
      generalize (V.mk vk vn vs vla vll vlc vL vfa vfl vfc vfn vF ve vkey vhk).text = tx at hT HN hsl
      simp only [V.agg, V.cells] at hX hT
      have HT := Lib.hid hT
      have HC : Hid (∀ W, Below w0.heap.size w0 W → W.cell? ⟨b, o + k * 9, none⟩ = some (.string nm) ∧ W.cell? ⟨b, o + k * 9 + 1, none⟩ = some (.int .u8 vk) ∧ W.cell? ⟨b, o + k * 9 + 2, none⟩ = some (.int .i64 vn) ∧ W.cell? ⟨b, o + k * 9 + 3, none⟩ = some (.string vs) ∧ W.cell? ⟨b, o + k * 9 + 4, none⟩ = some (.slice vla vll vlc) ∧ W.cell? ⟨b, o + k * 9 + 5, none⟩ = some (.slice vfa vfl vfc) ∧ W.cell? ⟨b, o + k * 9 + 6, none⟩ = some (.int .u8 ve) ∧ W.cell? ⟨b, o + k * 9 + 7, none⟩ = some (.string vkey) ∧ W.cell? ⟨b, o + k * 9 + 8, none⟩ = some (.bool vhk)) := Lib.hid fun W hW => ⟨hX W hW 0 (by simp), hX W hW 1 (by simp), hX W hW 2 (by simp), hX W hW 3 (by simp), hX W hW 4 (by simp), hX W hW 5 (by simp), hX W hW 6 (by simp), hX W hW 7 (by simp), hX W hW 8 (by simp)⟩
      clear hX hT
      have l1 : (acc ++ sp).length + (qT nm).length ≤ 140737488355328 := by rw [List.length_append]; omega
      have l2 : (acc ++ sp ++ qT nm).length + 1 ≤ 140737488355328 := by simp only [List.length_append]; omega
      have l3 : (acc ++ sp ++ qT nm ++ [32]).length + tx.data.toList.length ≤ 140737488355328 := by simp only [List.length_append, List.length_cons, List.length_nil]; omega
      go_upto_region 6 with (first
        | (go_at_call 93; (with_reducible refine HB.out.mono ?_); rintro e1 w1 ⟨rfl, h1⟩; have c1 := (HC.out _ h1.low).1)
        | (go_at_call 146; (with_reducible refine (tquoted_any nm hsz h1 ht l1).mono ?_); rintro e2 w2 ⟨rfl, h2⟩)
        | (go_at_call 145; (with_reducible refine (wbyte_32 h2 l2).mono ?_); rintro e3 w3 ⟨rfl, h3⟩))
      have HD := Lib.hid (h3.below (W' := w3.drew) (below_drewN w3 1))
      have hd := And.intro HD.out.low (HC.out _ HD.out.low)
      go_region_held3 (fun W => Below w0.heap.size w0 W ∧ (W.cell? ⟨b, o + k * 9, none⟩ = some (.string nm) ∧ W.cell? ⟨b, o + k * 9 + 1, none⟩ = some (.int .u8 vk) ∧ W.cell? ⟨b, o + k * 9 + 2, none⟩ = some (.int .i64 vn) ∧ W.cell? ⟨b, o + k * 9 + 3, none⟩ = some (.string vs) ∧ W.cell? ⟨b, o + k * 9 + 4, none⟩ = some (.slice vla vll vlc) ∧ W.cell? ⟨b, o + k * 9 + 5, none⟩ = some (.slice vfa vfl vfc) ∧ W.cell? ⟨b, o + k * 9 + 6, none⟩ = some (.int .u8 ve) ∧ W.cell? ⟨b, o + k * 9 + 7, none⟩ = some (.string vkey) ∧ W.cell? ⟨b, o + k * 9 + 8, none⟩ = some (.bool vhk)))
        (first | with_reducible exact hd | with_reducible exact hd4 | with_reducible exact hd5)
        (first
          | (go_at_call 168; (with_reducible refine (HT.out _ HD.out.low).mono ?_); rintro e4 w4 ⟨rfl, hb4⟩; have h4 := HD.out.below hb4; have hd4 := And.intro h4.low (HC.out _ h4.low); have H4 := Lib.hid h4)
          | (go_at_call 147; (with_reducible refine (wstr_any tx H4.out l3).mono ?_); rintro e5 w5 ⟨rfl, h5⟩; have hd5 := And.intro h5.low (HC.out _ h5.low)))
      all_goals (go_wp2_with fail)
      all_goals go_roundw
      case rel => exact ⟨k + 1, by omega, by go_num, HN.out _ h5⟩
      case measure => simp [intOf]; omega
    · obtain rfl : k = al := by omega
      go_wp2_with fail
      go_end0
      exact ⟨rfl, hrt⟩
end Go.Proofs.YtajmdhcknmmbbaaGreatDoor.Sh
namespace Go.Proofs.YtajmdhcknmmbbaaGreatDoor.Sh
set_option linter.unusedVariables false
set_option linter.unusedSimpArgs false
open Go.Proofs.YtajmdhcknmmbbaaGreatDoor Go.RowKit Go.Deep

/-- What the teller's contract says of a node's kids. -/
def KidsTx : N → Prop
  | .leaf => True
  | .mk _ _ _ _ _ _ _ _ ka kl kc K => ∀ (w0 : World) (B : Nat) (l : Str) (W : World), NsIn w0 ka kl K → (kl ≤ kc ∧ kc ≤ maxLen) → Tabs w0 → TT w0 B l W → l.length + (sepTo kl (fun i => (K i).tx)).length ≤ 140737488355328 →
      Calls Tryz.prog 28 #[.pointer (some ⟨B, 0, none⟩), .slice ka kl kc] W (PostW w0 B l (sepTo kl (fun i => (K i).tx)))

set_option maxRecDepth 100000 in
set_option maxHeartbeats 4000000 in
theorem tnode_any (x : N) (hk : KidsTx x) {w0 : World} {B : Nat} {l : Str} {W : World} {b o : Nat} (hat : At w0 b o x.cells) (hin : x.In w0) (ht : Tabs w0) (h : TT w0 B l W) (hl : l.length + x.tx.length ≤ 140737488355328) :
    Calls Tryz.prog 94 #[.pointer (some ⟨B, 0, none⟩), .pointer (some ⟨b, o, none⟩)] W (PostW w0 B l x.tx) := by
  cases x with
  | leaf => exact hin.elim
  | mk id tag text aa al ac an A ka kl kc K =>
  obtain ⟨h1, h2, h3, h4, h5, hA, hK⟩ := hin
  have HC : Hid (∀ W, Below w0.heap.size w0 W → W.cell? ⟨b, o + 1, none⟩ = some (.string tag) ∧ W.cell? ⟨b, o + 2, none⟩ = some (.string text) ∧ W.cell? ⟨b, o + 3, none⟩ = some (.slice aa al ac) ∧ W.cell? ⟨b, o + 4, none⟩ = some (.slice ka kl kc)) := Lib.hid fun W hW => by
    have := hat.mono (w' := W) fun _ ha => hW.cell ha
    exact ⟨this 1 (by simp [N.cells]), this 2 (by simp [N.cells]), this 3 (by simp [N.cells]), this 4 (by simp [N.cells])⟩
  have HK : Hid (∀ (l : Str) (W : World), TT w0 B l W → l.length + (sepTo kl (fun i => (K i).tx)).length ≤ 140737488355328 → Calls Tryz.prog 28 #[.pointer (some ⟨B, 0, none⟩), .slice ka kl kc] W (PostW w0 B l (sepTo kl (fun i => (K i).tx)))) := Lib.hid fun l W h hl => hk w0 B l W hK h5 ht h hl
  have HA : Hid (∀ (l : Str) (W : World), TT w0 B l W → l.length + (sepTo al (aTx an A)).length ≤ 140737488355328 → Calls Tryz.prog 148 #[.pointer (some ⟨B, 0, none⟩), .slice aa al ac] W (PostW w0 B l (sepTo al (aTx an A)))) := Lib.hid fun l W h hl => tattrs_any aa al ac an A hA h4 h ht hl
  obtain ⟨c1, c2, c3, c4⟩ := HC.out W h.low
  clear hat hA hK hk h1 h4 h5
  cases hte : tag.toList == [] with
  | true =>
    have htx : (N.mk id tag text aa al ac an A ka kl kc K).tx = qT text := by simp only [N.tx, hte, if_true]
    rw [htx] at hl ⊢
    go_enter Tryz.func94, Tryz.ntmps94
    go_wp2_with (go_at_call 146; (with_reducible refine (tquoted_any text h3 h ht hl).mono ?_); rintro e1 w1 ⟨rfl, h1⟩)
    go_end0
    exact ⟨rfl, h1⟩
  | false =>
    have htx : (N.mk id tag text aa al ac an A ka kl kc K).tx = 40 :: (qT tag ++ ([32, 123] ++ (sepTo al (aTx an A) ++ ([125, 32, 91] ++ (sepTo kl (fun i => (K i).tx) ++ [93, 41]))))) := by simp only [N.tx, hte, Bool.false_eq_true, if_false]
    rw [htx] at hl ⊢
    clear htx
    generalize sepTo kl (fun i => (K i).tx) = kt at HK hl ⊢
    generalize sepTo al (aTx an A) = at_ at HA hl ⊢
    simp only [List.length_append, List.length_cons, List.length_nil] at hl
    have l1 : l.length + 1 ≤ 140737488355328 := by omega
    have l2 : (l ++ [40]).length + (qT tag).length ≤ 140737488355328 := by simp only [List.length_append, List.length_cons, List.length_nil]; omega
    have l3 : (l ++ [40] ++ qT tag).length + (⟨#[32, 123]⟩ : ByteArray).data.toList.length ≤ 140737488355328 := by simp only [List.length_append, List.length_cons, List.length_nil]; omega
    have l4 : (l ++ [40] ++ qT tag ++ (⟨#[32, 123]⟩ : ByteArray).data.toList).length + at_.length ≤ 140737488355328 := by simp only [List.length_append, List.length_cons, List.length_nil]; omega
    have l5 : (l ++ [40] ++ qT tag ++ (⟨#[32, 123]⟩ : ByteArray).data.toList ++ at_).length + (⟨#[125, 32, 91]⟩ : ByteArray).data.toList.length ≤ 140737488355328 := by simp only [List.length_append, List.length_cons, List.length_nil]; omega
    have l6 : (l ++ [40] ++ qT tag ++ (⟨#[32, 123]⟩ : ByteArray).data.toList ++ at_ ++ (⟨#[125, 32, 91]⟩ : ByteArray).data.toList).length + kt.length ≤ 140737488355328 := by simp only [List.length_append, List.length_cons, List.length_nil]; omega
    have l7 : (l ++ [40] ++ qT tag ++ (⟨#[32, 123]⟩ : ByteArray).data.toList ++ at_ ++ (⟨#[125, 32, 91]⟩ : ByteArray).data.toList ++ kt).length + (⟨#[93, 41]⟩ : ByteArray).data.toList.length ≤ 140737488355328 := by simp only [List.length_append, List.length_cons, List.length_nil]; omega
    go_enter Tryz.func94, Tryz.ntmps94
    go_wp2_with (first
      | (go_at_call 145; (with_reducible refine (wbyte_40 h l1).mono ?_); rintro e1 w1 ⟨rfl, h1⟩; obtain ⟨d1, d2, d3, d4⟩ := HC.out w1 h1.low)
      | (go_at_call 146; (with_reducible refine (tquoted_any tag h2 h1 ht l2).mono ?_); rintro e2 w2 ⟨rfl, hh2⟩)
      | (go_at_call 147; (with_reducible refine (wstr_any ⟨#[32, 123]⟩ hh2 l3).mono ?_); rintro e3 w3 ⟨rfl, hh3⟩; obtain ⟨f1, f2, f3, f4⟩ := HC.out w3 hh3.low)
      | (go_at_call 148; (with_reducible refine (HA.out _ _ hh3 l4).mono ?_); rintro e4 w4 ⟨rfl, hh4⟩)
      | (go_at_call 147; (with_reducible refine (wstr_any ⟨#[125, 32, 91]⟩ hh4 l5).mono ?_); rintro e5 w5 ⟨rfl, hh5⟩; obtain ⟨g1, g2, g3, g4⟩ := HC.out w5 hh5.low)
      | (go_at_call 28; (with_reducible refine (HK.out _ _ hh5 l6).mono ?_); rintro e6 w6 ⟨rfl, hh6⟩)
      | (go_at_call 147; (with_reducible refine (wstr_any ⟨#[93, 41]⟩ hh6 l7).mono ?_); rintro e7 w7 ⟨rfl, hh7⟩))
    go_end0
    refine ⟨rfl, ?_⟩
    have e : l ++ 40 :: (qT tag ++ 32 :: 123 :: (at_ ++ 125 :: 32 :: 91 :: (kt ++ [93, 41]))) = l ++ [40] ++ qT tag ++ (⟨#[32, 123]⟩ : ByteArray).data.toList ++ at_ ++ (⟨#[125, 32, 91]⟩ : ByteArray).data.toList ++ kt ++ (⟨#[93, 41]⟩ : ByteArray).data.toList := by simp [List.append_assoc]
    first | (rw [e]; exact hh7) | (show TT w0 B _ _; simpa [List.append_assoc] using hh7)

set_option maxRecDepth 100000 in
set_option maxHeartbeats 4000000 in
theorem tnodes_list (a : Option Addr) (n c : Nat) (K : Nat → N) (ih : ∀ i, KidsTx (K i)) (w0 : World) (B : Nat) (l : Str) (W : World) (hN : NsIn w0 a n K) (hlc : n ≤ c ∧ c ≤ maxLen) (ht : Tabs w0) (h : TT w0 B l W) (hl : l.length + (sepTo n (fun i => (K i).tx)).length ≤ 140737488355328) :
    Calls Tryz.prog 28 #[.pointer (some ⟨B, 0, none⟩), .slice a n c] W (PostW w0 B l (sepTo n (fun i => (K i).tx))) := by
  unfold maxLen at hlc
  have H := Lib.hid hN
  have HI := Lib.hid ih
  have H0 : Hid (TT w0 B (l ++ sepTo 0 (fun i => (K i).tx)) W) := Lib.hid (by rw [sepTo, List.append_nil]; exact h)
  clear hN h ih
  go_enter Tryz.func28, Tryz.ntmps28
  go_wp2_with fail
  go_loopw [7] (fun i wr => ∃ k : Nat, k ≤ n ∧ i = .int .i64 k ∧ TT w0 B (l ++ sepTo k (fun i => (K i).tx)) wr) (fun i _ => n - (intOf i).toNat)
  case atStart => exact ⟨0, Nat.zero_le _, rfl, H0.out⟩
  case round =>
    obtain ⟨k, hk, rfl, hrt⟩ := hrel
    by_cases hlt : k < n
    · obtain ⟨⟨b, o, rfl, hat⟩, hin⟩ := H.out k hlt
      have hmono := sepTo_mono (fun i => (K i).tx) (k + 1) n hlt
      have hstep : sepTo (k + 1) (fun i => (K i).tx) = sepTo k (fun i => (K i).tx) ++ ((if 0 < k then [32] else []) ++ (K k).tx) := rfl
      rw [hstep] at hmono
      simp only [List.length_append] at hmono
      have HN : Hid (∀ wr', TT w0 B ((l ++ sepTo k (fun i => (K i).tx)) ++ (if 0 < k then [32] else []) ++ (K k).tx) wr' → TT w0 B (l ++ sepTo (k + 1) (fun i => (K i).tx)) wr') := Lib.hid fun wr' h => by
        rw [hstep]; simpa [List.append_assoc] using h
      obtain ⟨acc, hacc⟩ : ∃ acc, l ++ sepTo k (fun i => (K i).tx) = acc := ⟨_, rfl⟩
      have hal : acc.length = l.length + (sepTo k (fun i => (K i).tx)).length := by rw [← hacc, List.length_append]
      rw [hacc] at hrt HN
      have HB := Lib.hid (between_any (W := wr) k hrt (fun h0 => by rw [if_pos h0] at hmono; simp only [List.length_cons, List.length_nil] at hmono; omega))
      have hsl : (if 0 < k then ([32] : Str) else []).length + (acc.length + (K k).tx.length) ≤ 140737488355328 := by omega
      have hkt := HI.out k
      clear hstep hacc hal hmono hrt
      generalize (if 0 < k then ([32] : Str) else []) = sp at HN hsl HB
      generalize K k = x at hat hin hkt HN hsl
      have l1 : (acc ++ sp).length + x.tx.length ≤ 140737488355328 := by rw [List.length_append]; omega
      have HT := Lib.hid (fun (W : World) (h : TT w0 B (acc ++ sp) W) => tnode_any x hkt hat hin ht h l1)
      clear hat hin hkt
      go_wp2_with (first
        | (go_at_call 93; (with_reducible refine HB.out.mono ?_); rintro e1 w1 ⟨rfl, h1⟩)
        | (go_at_call 94; (with_reducible refine (HT.out _ h1).mono ?_); rintro e2 w2 ⟨rfl, h2⟩))
      go_roundw
      case rel => exact ⟨k + 1, by omega, by go_num, HN.out _ h2⟩
      case measure => simp [intOf]; omega
    · obtain rfl : k = n := by omega
      go_wp2_with fail
      go_end0
      exact ⟨rfl, hrt⟩
theorem kids_tx : ∀ n : N, KidsTx n := by
  intro n
  induction n with
  | leaf => trivial
  | mk id tag text aa al ac an A ka kl kc K ih => exact fun w0 B l W hN hlc ht h hl => tnodes_list ka kl kc K ih w0 B l W hN hlc ht h hl

/-- show.Text of these nodes. -/
def textN (n : Nat) (K : Nat → N) : Str := if allB n (fun i => (K i).may) then sepTo n (fun i => (K i).tx) else []

theorem tx_ne {n : N} (h : n.may = true) : n.tx ≠ [] := by
  cases n with
  | leaf => cases h
  | mk id tag text aa al ac an A ka kl kc K =>
    simp only [N.may, Bool.and_eq_true, Bool.or_eq_true] at h
    simp only [N.tx]
    split
    · rename_i ht
      rcases h.1 with h | h
      · simp only [textB, Bool.and_eq_true, decide_eq_true_eq] at h
        rw [qT_eq h.2.1]; exact List.cons_ne_nil _ _
      · simp [hostB, nameB, ht] at h
    · exact List.cons_ne_nil _ _
theorem sepTo_ne {n : Nat} {K : Nat → N} (h : ∀ i, i < n → (K i).may = true) (hn : 0 < n) : sepTo n (fun i => (K i).tx) ≠ [] := by
  cases n with
  | zero => omega
  | succ n =>
    rw [sepTo]
    intro e
    have := tx_ne (h n (by omega))
    simp only [List.append_eq_nil_iff] at e
    exact this e.2.2
theorem isT_newT (w : World) : PB.IsT 75 [] w.heap.size (w.heap.size + 1) [] (w.alloc (.cells #[.pointer none, .slice none 0 0] 75)) :=
  ⟨.inl ⟨.slice none 0 0, heap_alloc_new w _, World.ownsRow_nil _ _ _ _⟩, by simp⟩
set_option maxRecDepth 100000 in
theorem tnodes_zero (B : Nat) (a : Option Addr) (c : Nat) (W : World) : Calls Tryz.prog 28 #[.pointer (some ⟨B, 0, none⟩), .slice a 0 c] W fun e w' => e = .returned (.tuple #[]) ∧ w' = W := by
  go_enter Tryz.func28, Tryz.ntmps28
  go_wp2_with fail
  go_loopw [7] (fun i wr => i = .int .i64 0 ∧ wr = W) (fun _ _ => 0)
  case atStart => exact ⟨rfl, rfl⟩
  case round =>
    obtain ⟨rfl, rfl⟩ := hrel
    go_wp2_with fail
    go_end0
    exact ⟨rfl, rfl⟩

set_option maxRecDepth 100000 in
set_option maxHeartbeats 4000000 in
theorem text_show (a : Option Addr) (n c : Nat) (K : Nat → N) (w : World) (hN : NsIn w a n K) (hlc : n ≤ c ∧ c ≤ maxLen) (ht : Tabs w) (hl : (textN n K).length ≤ 140737488355328) :
    Calls Tryz.prog 14 #[.slice a n c] w fun e w' => e = .returned (.string ⟨(textN n K).toArray⟩) ∧ Below w.heap.size w w' := by
  have HM := Lib.hid (mayBe_any a n c K w hN ht.1 hlc)
  unfold textN at hl ⊢
  cases hm : allB n (fun i => (K i).may) with
  | false =>
    rw [hm] at HM
    rw [if_neg Bool.false_ne_true]
    clear hN ht hl hm
    go_enter Tryz.func14, Tryz.ntmps14
    go_wp2_with (go_at_call 27; (with_reducible refine HM.out.mono ?_); rintro e1 w1 ⟨rfl, hb1⟩)
    go_ret
    exact ⟨rfl, hb1⟩
  | true =>
    rw [hm, if_pos rfl] at hl
    rw [hm] at HM
    rw [if_pos rfl]
    by_cases h0 : n = 0
    · subst h0
      clear hN ht hl hm
      go_enter Tryz.func14, Tryz.ntmps14
      go_upto_region 4 with (go_at_call 27; (with_reducible refine HM.out.mono ?_); rintro e1 w1 ⟨rfl, hb1⟩)
      have hs1 := hb1.size
      go_wp2_with (first
        | (go_at_call 28; (with_reducible refine (tnodes_zero _ _ _ _).mono ?_); rintro e2 w2 ⟨rfl, rfl⟩)
        | (go_at_call 29; (with_reducible refine (PB.string_nil (ty := 75) (rest := []) (B := w1.heap.size) (K := w1.heap.size + 1) (.pointer none) _ (heap_alloc_new w1 _)).mono ?_); rintro e3 w3 ⟨rfl, hb3⟩))
      first | go_ret | skip
      exact ⟨rfl, hb1.trans (((Below.refl w1.heap.size w1).alloc (Nat.le_refl _) _).trans (hb3.mono (Nat.le_succ _)) |>.mono hs1)⟩
    · have hx := sepTo_ne (allB_true.1 hm) (by omega)
      have HT : Hid (∀ (B : Nat) (W : World), TT w B [] W → Calls Tryz.prog 28 #[.pointer (some ⟨B, 0, none⟩), .slice a n c] W (PostW w B [] (sepTo n (fun i => (K i).tx)))) := Lib.hid fun B W h => tnodes_list a n c K (fun i => kids_tx (K i)) w B [] W hN hlc ht h (by simpa using hl)
      clear hN ht hl hm
      generalize sepTo n (fun i => (K i).tx) = x at HT hx ⊢
      go_enter Tryz.func14, Tryz.ntmps14
      go_upto_region 4 with (go_at_call 27; (with_reducible refine HM.out.mono ?_); rintro e1 w1 ⟨rfl, hb1⟩)
      have hs1 := hb1.size
      have H1 : TT w w1.heap.size [] (w1.alloc (.cells #[.pointer none, .slice none 0 0] 75)) := ⟨isT_newT w1, hs1, hb1.trans (((Below.refl _ _).alloc (Nat.le_refl _) _).mono hs1)⟩
      go_wp2_with (first
        | (go_at_call 28; (with_reducible refine (HT.out _ _ H1).mono ?_); rintro e2 w2 ⟨rfl, h2⟩; have HB2 : PB.IsT 75 [] w1.heap.size (w1.heap.size + 1) x w2 := h2.bt)
        | (go_at_call 29; (with_reducible refine (PB.string_any x w2 HB2 hx).mono ?_); rintro e3 w3 ⟨rfl, hb3⟩))
      first | go_ret | skip
      exact ⟨rfl, h2.low.trans (hb3.mono (by omega))⟩
end Go.Proofs.YtajmdhcknmmbbaaGreatDoor.Sh
